/- Parts. -/
import Derived.Test.YtbiclliooidkjaaGreatDoorLaw41AllK31
import Derived.Test.YtbiclliooidkjaaGreatDoorLaw41AllK22
set_option maxRecDepth 10000
set_option maxHeartbeats 16000000
set_option linter.unusedVariables false
set_option linter.unusedSimpArgs false
namespace Go.Proofs.YtbiclliooidkjaaGreatDoor
open Go.RowKit
open Go.Lib hiding intOf
attribute [local go_sem ↓] Go.wp_at_zero Go.wp_at_succ

def valC (v : Int × Int) : Array Value := #[.int .i64 v.1, .int .i64 v.2]
theorem rraw_any (s f : Int) (A : Option Addr) (m cp B many : Nat) (ops : List Op4) (key : Int) (w : World) (hg : Row w B A (opC ops)) (hm : ops.length = m) (hM : m ≤ 1000) (hmany : many ≤ 1000) :
  Calls Tryz.prog 55 #[.agg #[.int .i64 s, .int .i64 f, .slice A m cp], .int .i64 (many : Int), .int .i64 key] w fun e w' => e = .returned (optT (leftW key (ops.take many))) ∧ Only [] w w' := by
 have HG := Hd hg;have HMM := Hd hm;obtain ⟨r, hr⟩ : ∃ r, r = leftW key (ops.take many) := ⟨_, rfl⟩;rw [← hr];have HR := Hd hr;have HO0 := Hd ((((Only.refl [] w).alloc (.cells #[.int .i64 s, .int .i64 f, .slice A m cp] 39)).alloc (.cells #[.int .i64 0, .int .i64 0] 48)).alloc (.cells #[.int .i64 0, .int .i64 0] 48));have HT0 := Hd (((Blk.made w 39 #[.int .i64 s, .int .i64 f, .slice A m cp]).alloc (.cells #[.int .i64 0, .int .i64 0] 48)).alloc (.cells #[.int .i64 0, .int .i64 0] 48));have HV0 := Hd ((Blk.made (w.alloc (.cells #[.int .i64 s, .int .i64 f, .slice A m cp] 39)) 48 #[.int .i64 0, .int .i64 0]).alloc (.cells #[.int .i64 0, .int .i64 0] 48));have HU0 := Hd (Blk.made ((w.alloc (.cells #[.int .i64 s, .int .i64 f, .slice A m cp] 39)).alloc (.cells #[.int .i64 0, .int .i64 0] 48)) 48 #[.int .i64 0, .int .i64 0]);simp only [World.size_alloc] at HV0 HU0;clear hg hm hr;go_enter Tryz.func55, Tryz.ntmps55;go_wp2_with fail
 go_loopw [9, 10] (fun iz iv wr => ∃ i : Nat, iv = .int .i64 i ∧ i ≤ many ∧ i ≤ m ∧ iz = .bool (leftW key (ops.take i)).isSome ∧ Hid (Blk wr (w.heap.size + 1 + 1) 48 (valC (leftV key (ops.take i)))) ∧ Hid (Blk wr (w.heap.size + 1) 48 #[.int .i64 0, .int .i64 0]) ∧ Hid (Blk wr w.heap.size 39 #[.int .i64 s, .int .i64 f, .slice A m cp]) ∧ Hid (Only [] w wr)) (fun _ iv _ => m - (intOf iv).toNat)
 case atStart => exact ⟨0, rfl, by omega, by omega, rfl, HU0, HV0, HT0, HO0⟩
 case round =>
  obtain ⟨i, rfl, hi1, hi2, rfl, hU, hV, hT, hO⟩ := hrel;have hsz := hO.out.size;have lT := hT.out.lt;have t2 := hT.out.at_ 2;simp at t2;clear HO0 HT0 HV0 HU0
  by_cases hlt1 : i < many
  ·by_cases hlt2 : i < m
   ·obtain ⟨y, hy⟩ : ∃ y, ops[i]? = some y := ⟨_, List.getElem?_eq_getElem (by rw [HMM.out]; exact hlt2)⟩;obtain ⟨b, off, rfl, -, hbw, hP⟩ := row_op HG.out hy;obtain ⟨p0, p1, p2, p3⟩ := hP.only hO.out hbw (by simp);have HLT := Hd (leftW_take (key := key) hy);obtain ⟨yw, yk, yv, yn⟩ := y;dsimp only at p0 p1 p2 p3 HLT;have h01 : (i : Int) < (many : Int) := by omega
    have h02 : (i : Int) < (m : Int) := by omega
    have hi0 : (0 : Int) ≤ (i : Int) := Int.natCast_nonneg _;have hwi : IntKind.i64.wrap ((i : Int) + 1) = (i : Int) + 1 := IntWalk.i64_in _ (by omega);have hbr : b < wr.heap.size := by omega
    clear hP hy
    by_cases hw : yw = true ∧ yk = key
    ·obtain ⟨rfl, rfl⟩ := hw;have HE : Hid (leftW yk (ops.take (i + 1)) = some (yv, yn)) := Hd (by rw [HLT.out]; simp [hitO]);have HVE : Hid (leftV yk (ops.take (i + 1)) = (yv, yn)) := Hd (by unfold leftV; rw [HE.out]; rfl);generalize leftW yk (ops.take i) = l0 at *;generalize leftV yk (ops.take i) = v0 at *;go_wp2_with (refine wpList_store_blk rfl 48 (.tmp 8) (.tmp 45) rfl (w.heap.size + 1 + 1) 48 (valC v0) #[.int .i64 yv, .int .i64 yn] rfl rfl hU.out rfl (by kernel_rfl) (by kernel_rfl) ?_; intro w9 b9 o9; have HB9 := Hd b9; have HV9 := Hd (o9.blk hV.out (by simp)); have HT9 := Hd (o9.blk hT.out (by simp; omega)); have HN9 := Hd (hO.out.step o9 (fun i hi hl => by simp at hi; omega)); clear b9 o9)
     go_roundw
     case rel => first | exact ⟨i + 1, by go_num, by omega, by omega, by rw [HE.out]; rfl, Hd (by rw [HVE.out]; exact HB9.out), HV9, HT9, HN9⟩ | exact ⟨_, _, ⟨i + 1, by go_num, by omega, by omega, by rw [HE.out]; rfl, Hd (by rw [HVE.out]; exact HB9.out), HV9, HT9, HN9⟩, rfl, rfl⟩
     case measure => simp [intOf]; omega
    ·have HE : Hid (leftW key (ops.take (i + 1)) = leftW key (ops.take i)) := Hd (by
      rw [HLT.out, if_neg];unfold hitO;simp;exact fun h => fun h' => hw ⟨h, h'⟩)
     have HVE : Hid (leftV key (ops.take (i + 1)) = leftV key (ops.take i)) := Hd (by unfold leftV; rw [HE.out]);clear HLT
     cases yw with
     | false =>
      clear hw;go_wp2
      go_roundw
      case rel => first | exact ⟨i + 1, by go_num, by omega, by omega, by rw [HE.out], Hd (by rw [HVE.out]; exact hU.out), hV, hT, hO⟩ | exact ⟨_, _, ⟨i + 1, by go_num, by omega, by omega, by rw [HE.out], Hd (by rw [HVE.out]; exact hU.out), hV, hT, hO⟩, rfl, rfl⟩
      case measure => simp [intOf]; omega
     | true =>
      have hk1 : (yk == key) = false := by simpa using hw
      clear hw;go_wp2
      go_roundw
      case rel => first | exact ⟨i + 1, by go_num, by omega, by omega, by rw [HE.out], Hd (by rw [HVE.out]; exact hU.out), hV, hT, hO⟩ | exact ⟨_, _, ⟨i + 1, by go_num, by omega, by omega, by rw [HE.out], Hd (by rw [HVE.out]; exact hU.out), hV, hT, hO⟩, rfl, rfl⟩
      case measure => simp [intOf]; omega
   ·have him : i = m := by omega
    subst him;have HRE : Hid (leftW key (ops.take i) = r) := Hd (by rw [HR.out, List.take_of_length_le (by rw [HMM.out]; exact Nat.le_refl _), List.take_of_length_le (by rw [HMM.out]; omega)]);have HVE : Hid (leftV key (ops.take i) = r.getD (0, 0)) := Hd (by unfold leftV; rw [HRE.out]);have h01 : (i : Int) < (many : Int) := by omega
    have hd2 : decide ((i : Int) < (i : Int)) = false := by simp
    rw [HRE.out];rw [HVE.out] at hU;generalize hgr : w.heap.size + 1 = gr at *;have lU := hU.out.lt;have u0 := hU.out.at_ 0;have u1 := hU.out.at_ 1;simp [valC] at u0 u1;go_wp2_with (refine wpList_store_blk rfl 48 (.tmp 6) (.tmp 46) rfl gr 48 #[.int .i64 0, .int .i64 0] #[.int .i64 (r.getD (0, 0)).1, .int .i64 (r.getD (0, 0)).2] rfl rfl hV.out rfl (by kernel_rfl) (by kernel_rfl) ?_; intro w9 b9 o9; have HB9 := Hd b9; have HN9 := Hd o9; clear b9 o9)
    refine bodyPost_ret (results_row2 Tryz.results55 _ _ gr 48 #[.int .i64 (r.getD (0, 0)).1, .int .i64 (r.getD (0, 0)).2] _ rfl HB9.out Tryz.underlying48 rfl (by kernel_rfl)) rfl ?_;exact ⟨rfl, hO.out.step HN9.out (fun i hi hl => by simp at hi; omega)⟩
  ·have him : i = many := by omega
   subst him;have HRE : Hid (leftW key (ops.take i) = r) := Hd HR.out.symm;have HVE : Hid (leftV key (ops.take i) = r.getD (0, 0)) := Hd (by unfold leftV; rw [HRE.out]);have hd2 : decide ((i : Int) < (i : Int)) = false := by simp
   rw [HRE.out];rw [HVE.out] at hU;generalize hgr : w.heap.size + 1 = gr at *;have lU := hU.out.lt;have u0 := hU.out.at_ 0;have u1 := hU.out.at_ 1;simp [valC] at u0 u1;go_wp2_with (refine wpList_store_blk rfl 48 (.tmp 6) (.tmp 46) rfl gr 48 #[.int .i64 0, .int .i64 0] #[.int .i64 (r.getD (0, 0)).1, .int .i64 (r.getD (0, 0)).2] rfl rfl hV.out rfl (by kernel_rfl) (by kernel_rfl) ?_; intro w9 b9 o9; have HB9 := Hd b9; have HN9 := Hd o9; clear b9 o9)
   refine bodyPost_ret (results_row2 Tryz.results55 _ _ gr 48 #[.int .i64 (r.getD (0, 0)).1, .int .i64 (r.getD (0, 0)).2] _ rfl HB9.out Tryz.underlying48 rfl (by kernel_rfl)) rfl ?_;exact ⟨rfl, hO.out.step HN9.out (fun i hi hl => by simp at hi; omega)⟩

theorem rwriters_any (A0 A1 A2 : Option Addr) (n0 n1 n2 c0 c1 c2 B : Nat) (h : Hst) (key : Int) (w : World) (hg : HIn w B A0 A1 A2 n0 n1 n2 h) :
  Calls Tryz.prog 36 #[hval A0 A1 A2 n0 n1 n2 c0 c1 c2, .int .i64 key] w fun e w' => ∃ A' c', (e = .returned (.slice A' (wrtH h key).length c') ∧ Row w' w'.heap.size A' ((wrtH h key).map (Value.int .i64))) ∧ Only [] w w' := by
 have HM := Hd (fun w' (O : Only [] w w') => refmay_any A0 A1 A2 n0 n1 n2 c0 c1 c2 B h w' (hg.same O));have hM : n2 ≤ 1000 := by
  have := hg.sm.nl;rw [hg.n2] at this;exact this
 have HL := Hd hg.at_.r2;have HN2 := Hd hg.n2;have HNO := Hd hg.sm.no;obtain ⟨i0, hi, hz0, hz1, hz2⟩ := info_parts info_int;unfold hval at HM ⊢;clear hg;have HO1 := Hd (((Only.refl [] w).alloc (.cells #[.slice A0 n0 c0, .slice A1 n1 c1, .slice A2 n2 c2] 25)).alloc (.cells #[] 3));have HB1 := Hd ((Blk.made w 25 #[.slice A0 n0 c0, .slice A1 n1 c1, .slice A2 n2 c2]).alloc (.cells #[] 3));have HV1 := Hd (World.ownsRow_lit (w.alloc (.cells #[.slice A0 n0 c0, .slice A1 n1 c1, .slice A2 n2 c2] 25)) (e := 3) (size := 1) #[] 0 (Nat.le_refl _) (by unfold maxLen; omega) rfl);rw [World.size_alloc] at HV1;have HF := Hd (HM.out _ HO1.out);clear HM;unfold wrtH
 cases hm : mayH h with
 | false =>
  rw [mayH_errn2 hm] at HF;clear hm;rw [if_neg (by decide)];go_enter Tryz.func36, Tryz.ntmps36;go_wp2_with fail
  refine (HF.out).mono ?_;rintro e w2 ⟨rfl, O2⟩;have HO2 := Hd (HO1.out.trans O2);have HB2 := Hd (O2.blk HB1.out (by simp));have HV2 := Hd (own_only HV1.out O2 (by simp));have lB := HB2.out.lt;have y2 := HB2.out.at_ 2;simp at y2;clear O2 HF HB1 HV1;go_wp2
  go_ret
  first | exact ⟨⟨_, ⟨_, rfl⟩, .inl rfl⟩, HO2.out⟩ | exact ⟨_, _, ⟨rfl, .inl rfl⟩, HO2.out⟩
 | true =>
  rw [mayH_err2 hm] at HF;clear hm;rw [if_pos rfl];obtain ⟨q, hq⟩ : ∃ q : Tx → Bool, q = writesB key := ⟨_, rfl⟩;rw [← hq];have HQ := Hd hq;clear hq;go_enter Tryz.func36, Tryz.ntmps36;go_wp2_with fail
  refine (HF.out).mono ?_;rintro e w2 ⟨rfl, O2⟩;have HO2 := Hd (HO1.out.trans O2);have HB2 := Hd (O2.blk HB1.out (by simp));have HV2 := Hd (own_only HV1.out O2 (by simp));have lB := HB2.out.lt;have y2 := HB2.out.at_ 2;simp at y2;clear O2 HF HB1 HV1;go_wp2_with fail
  go_loopw [5, 6] (fun V iv wr => ∃ k : Nat, iv = .int .i64 k ∧ k ≤ n2 ∧ Hid (wr.ownsRow (w.heap.size + 1) 3 1 V (whichL q (h.l.take k)).length ((whichL q (h.l.take k)).map (Value.int .i64))) ∧ Hid (Blk wr w.heap.size 25 #[.slice A0 n0 c0, .slice A1 n1 c1, .slice A2 n2 c2]) ∧ Hid (Only [] w wr)) (fun _ iv _ => n2 - (intOf iv).toNat)
  case atStart => exact ⟨0, rfl, by omega, HV2, HB2, HO2⟩
  case round =>
   obtain ⟨k, rfl, hk, hV, hB, hO⟩ := hrel;clear HV2 HB2 HO2 y2 lB HO1;have hsz := hO.out.size;have lB := hB.out.lt;have y2 := hB.out.at_ 2;simp at y2
   by_cases hlt : k < n2
   ·obtain ⟨x, hx⟩ : ∃ x, h.l[k]? = some x := ⟨_, List.getElem?_eq_getElem (by rw [HN2.out]; exact hlt)⟩;obtain ⟨bl, off, A', cp, rfl, -, hbw, hT, hOk⟩ := HL.out.at_ hx;obtain ⟨a0, a1, a2⟩ := hT.only hO.out hbw (by simp);have HWT := Hd (which_take (p := q) hx);have hwl := which_le q (h.l.take k);rw [List.length_take] at hwl;have hno := HNO.out x (List.mem_of_getElem? hx);have HROW := Hd hOk.row;obtain ⟨s, f, ops⟩ := x;dsimp only at a0 a1 a2 hno HROW;have HLF := Hd (fun w' (O : Only [] w w') => rraw_any s f A' ops.length cp B ops.length ops key w' (HROW.out.only O (by simp)) rfl hno hno);rw [List.take_of_length_le (Nat.le_refl _)] at HLF;have HQX : Hid (q ⟨s, f, ops⟩ = ((leftW key ops).isSome && !decide (f = 2))) := Hd (by rw [HQ.out]; rfl);generalize leftW key ops = v at *;generalize hm : ops.length = m at *;have h01 : (k : Int) < (n2 : Int) := by omega
    have hk0 : (0 : Int) ≤ (k : Int) := Int.natCast_nonneg _;have hwk : IntKind.i64.wrap ((k : Int) + 1) = (k : Int) + 1 := IntWalk.i64_in _ (by omega);have hbr : bl < wr.heap.size := by omega
    have HC0 := Hd a0;have HC1 := Hd a1;have HC2 := Hd a2;clear hT hOk hx hm a0 a1 a2;go_upto_region 7 with (fail)
    clear y2 lB;have RD0 := Hd fun wq (hSw : Only [] wr wq) => aI (Bk1 (hSw.blk hB.out (by simp)) 2) (aI ((hSw.cell (p := ⟨bl, off + k * 3, none⟩) hbr (by simp)).trans HC0.out) (aI ((hSw.cell (p := ⟨bl, off + k * 3 + 1, none⟩) hbr (by simp)).trans HC1.out) ((hSw.cell (p := ⟨bl, off + k * 3 + 2, none⟩) hbr (by simp)).trans HC2.out)));refine rg1 [] [] wr ?_;have OW : Only [] wr wr.drew := (Only.refl [] wr).drew;generalize hwz : wr.drew = wz at *;clear hwz;refine tQ 0 (h := trq 1 0 RD0 (h := tQ 2 (h := tQ 3 (h := trq 4 0 RD0 (h := tQ 5 (h := trq 6 0 RD0 (h := tQ 7 (h := tQ 8 (h := tQ 9 (h := trq 10 0 RD0 (h := tQ 11 (h := tQ 12 (h := ?_)))))))))))))
    apply cut_1_0 (fun w gv => (Only [] wr w) ∧ (True) ∧ (Blk w gv 48 #[.int .i64 0, .int .i64 0]) ∧ (wr.heap.size ≤ gv))
    intro HST13_17
    apply cut_1_0 (fun w gv => (Only [] wr w) ∧ (True) ∧ (Blk w gv 48 #[.int .i64 0, .int .i64 0]) ∧ (wr.heap.size ≤ gv))
    intro HST17
    apply cut_0_0 (fun w  => (Only [] wr w) ∧ (True))
    intro HST13
    ·refine timed_forks (l := [13, 17]) (by kernel_rfl) (by simp) (fork_cons ⟨_, rfl, fun K hK => ?_⟩ (fork_cons ⟨_, rfl, fun K hK => ?_⟩ (fork_nil)))
     ·go_simp;refine (HLF.out _ (hO.out.trans OW)).mono ?_;rintro e w3 ⟨rfl, O3⟩;unfold optT optV;have OW1 := OW.trans O3;have OS := O3;refine kOut hK (OW1) (h := ?_);clear hK K;refine tQ 14 (h := tQ 15 (h := tQ 16 (h := ?_)));exact HST13 w3  ⟨OW1, trivial⟩
     ·go_simp;have OW1 := OW.alloc (.cells #[.int .i64 0, .int .i64 0] 48);have OS : Only [] wz (wz.alloc (.cells #[.int .i64 0, .int .i64 0] 48)) := (Only.refl [] wz).alloc (.cells #[.int .i64 0, .int .i64 0] 48);have BV := Blk.made wz 48 #[.int .i64 0, .int .i64 0];have HGV : wr.heap.size ≤ wz.heap.size := OW.size;generalize wz.alloc (.cells #[.int .i64 0, .int .i64 0] 48) = w1 at *;generalize wz.heap.size = gv at *;refine kOut hK (OW1) (h := ?_);clear hK K;exact HST17 w1 gv ⟨OW1, trivial, BV, HGV⟩
    ·intro wz  ⟨OW, HTT⟩;refine tst (i := 17) fun K hK => ?_;go_simp;have OW1 := OW.alloc (.cells #[.int .i64 0, .int .i64 0] 48);have OS : Only [] wz (wz.alloc (.cells #[.int .i64 0, .int .i64 0] 48)) := (Only.refl [] wz).alloc (.cells #[.int .i64 0, .int .i64 0] 48);have BV := Blk.made wz 48 #[.int .i64 0, .int .i64 0];have HGV : wr.heap.size ≤ wz.heap.size := OW.size;generalize wz.alloc (.cells #[.int .i64 0, .int .i64 0] 48) = w1 at *;generalize wz.heap.size = gv at *;refine kOut hK (OW1) (h := ?_);clear hK K;exact HST13_17 w1 gv ⟨OW1, trivial, BV, HGV⟩
    ·intro wz gv ⟨OW, HTT, BV, HGV⟩;refine tst (i := 13) fun K hK => ?_;go_simp;refine (HLF.out _ (hO.out.trans OW)).mono ?_;rintro e w3 ⟨rfl, O3⟩;unfold optT optV;have OW1 := OW.trans O3;have OS := O3;have BV1 := OS.blk BV (by simp);refine kOut hK (OW1) (h := ?_);clear hK K;refine tQ 14 (h := tQ 15 (h := tQ 16 (h := ?_)));exact HST13_17 w3 gv ⟨OW1, trivial, BV1, HGV⟩
    -- behind all of the crowd
    intro wz gv ⟨OW, HTT, BV, HGV⟩;refine tst (i := 18) fun K hK => ?_;refine wp_store_blk 48 (.tmp 7) (.tmp 36) rfl gv 48 _ #[.int .i64 (v.getD (0, 0)).1, .int .i64 (v.getD (0, 0)).2] rfl rfl BV rfl (by kernel_rfl) (by kernel_rfl) ?_;intro w9 b9 o9;have HV9b := Hd b9;have OW9 := OW.step o9 (fun i hi hl => by simp at hi; omega);clear o9 b9;refine kOut hK (OW9) (h := ?_);clear hK K;refine tQ 19 (h := ?_);refine tdn ?_;have HW9 := Hd OW9;have HO9 := Hd (hO.out.trans HW9.out);have HB9 := Hd (HW9.out.blk hB.out (by simp));have HV9 := Hd (own_only hV.out HW9.out (by simp));have HC9 := Hd ((HW9.out.cell (p := ⟨bl, off + k * 3 + 1, none⟩) hbr (by simp)).trans HC1.out);have hbr9 : bl < w9.heap.size := by have := HW9.out.size; omega
    clear HC0 HC1 HC2 OW OW9 BV HW9 hV hB HLF;have t1 := HC9.out;have lB := HB9.out.lt;have y2 := HB9.out.at_ 2;simp at y2;generalize v.isSome = vb at *;have hsz9 := HO9.out.size
    cases vb with
    | false =>
     have HE : Hid (whichL q (h.l.take (k + 1)) = whichL q (h.l.take k)) := Hd (by rw [HWT.out, HQX.out]; simp);go_wp2
     go_roundw
     case rel => first | exact ⟨k + 1, by go_num, by omega, Hd (by rw [HE.out]; exact HV9.out), HB9, HO9⟩ | exact ⟨_, ⟨k + 1, by go_num, by omega, Hd (by rw [HE.out]; exact HV9.out), HB9, HO9⟩, rfl⟩
     case measure => simp [intOf]; omega
    | true =>
     by_cases hf : f = 2
     ·have hf1 : (f != 2) = false := by simp [hf]
      have HE : Hid (whichL q (h.l.take (k + 1)) = whichL q (h.l.take k)) := Hd (by rw [HWT.out, HQX.out, hf]; simp);clear hf;go_wp2
      go_roundw
      case rel => first | exact ⟨k + 1, by go_num, by omega, Hd (by rw [HE.out]; exact HV9.out), HB9, HO9⟩ | exact ⟨_, ⟨k + 1, by go_num, by omega, Hd (by rw [HE.out]; exact HV9.out), HB9, HO9⟩, rfl⟩
      case measure => simp [intOf]; omega
     ·have hf1 : (f != 2) = true := by simp [hf]
      have HE : Hid (whichL q (h.l.take (k + 1)) = whichL q (h.l.take k) ++ [(k : Int)]) := Hd (by rw [HWT.out, HQX.out]; simp [hf]);clear hf;go_wp2_with (at_builtin; refine wpList_append_row _ rfl (.tmp 48) (.tmp 50) _ rfl (w.heap.size + 1) 3 i0 _ 1 8 Tryz.underlying32 hi hz0 hz1 hz2 rfl (by omega) _ _ _ rfl (own_only HV9.out ((Only.refl [] _).alloc _) (by simp)) (w9.heap.size + 1) (some ⟨w9.heap.size, 0, none⟩) 1 1 [.int .i64 (k : Int)] rfl rfl (row_lit w9 3 #[.int .i64 (k : Int)]) (by simp [Value.oneCell']) (by unfold maxLen; omega) (by omega) (by have := HO9.out.size; simp; omega) ?_; intro v4 w4 hown4 hgrow hat)
      have hb1 := HB9.out.alloc (.cells #[.int .i64 (k : Int)] 3);have hv1 := own_only HV9.out ((Only.refl [] w9).alloc (.cells #[.int .i64 (k : Int)] 3)) (by simp);have REL : w4.ownsRow (w.heap.size + 1) 3 1 v4 (whichL q (h.l.take (k + 1))).length ((whichL q (h.l.take (k + 1))).map (Value.int .i64)) ∧ Blk w4 w.heap.size 25 #[.slice A0 n0 c0, .slice A1 n1 c1, .slice (some ⟨bl, off, none⟩) n2 c2] ∧ Only [] w w4 := by
       refine ⟨?_, (only_grown hgrow).blk hb1 (own_apart hv1 hb1 (by decide)), (HO9.out.alloc _).step (only_grown hgrow) (fun i hi hl => own_new HV9.out (S := []) i hi (by omega))⟩;rw [HE.out]
       simpa using hown4
      have HREL := Hd REL;clear REL hown4 lB y2 hb1 hv1;go_wp2
      go_roundw
      case rel => first | exact ⟨k + 1, by go_num, by omega, Hd HREL.out.1, Hd HREL.out.2.1, Hd HREL.out.2.2⟩ | exact ⟨_, ⟨k + 1, by go_num, by omega, Hd HREL.out.1, Hd HREL.out.2.1, Hd HREL.out.2.2⟩, rfl⟩
      case measure => simp [intOf]; omega
   ·have hkn : k = n2 := by omega
    subst hkn;have hd2 : decide ((k : Int) < (k : Int)) = false := by simp
    have hVV := hV.out;rw [List.take_of_length_le (by rw [HN2.out]; exact Nat.le_refl _)] at hVV;obtain ⟨A, c, rfl, -, -, -, hR⟩ := own_row hVV;have HR := Hd hR;clear hV hVV hR;go_wp2
    go_ret
    first | exact ⟨⟨_, ⟨_, rfl⟩, HR.out⟩, hO.out⟩ | exact ⟨_, _, ⟨rfl, HR.out⟩, hO.out⟩
end Go.Proofs.YtbiclliooidkjaaGreatDoor
