/- Parts. -/
import Derived.Lib.TrailingZeros
import Derived.Laws.BitsAllLaws
import Derived.RegionTactic
import Derived.Test.YthdofaoamljkfaaGreatDoorLaw24AllK12
import Derived.Deep.CutBlock
import Derived.Deep.DeepCutAuto
import Derived.Deep.Cut
set_option maxRecDepth 10000
set_option maxHeartbeats 16000000
set_option linter.unusedVariables false
set_option linter.unusedSimpArgs false
namespace Go.Proofs.YthdofaoamljkfaaGreatDoor
open Go.RowKit
theorem wrap_pow (r : Nat) (hr : r < 64) : IntKind.u64.wrap ((2 : Int) ^ r) = ((2 ^ r : Nat) : Int) := by
 have h : (2 : Nat) ^ r < 2 ^ 64 := Nat.pow_lt_pow_right (by decide) hr;rw [show ((2 : Int) ^ r) = ((2 ^ r : Nat) : Int) by simp];generalize (2 : Nat) ^ r = q at h ⊢;exact IntWalk.u64_in _ (by omega)
theorem test_val (x r : Nat) (hx : x < 18446744073709551616) : (bits .and .u64 ((x : Int) / 2 ^ r) 1 == 1) = x.testBit r := by
 have e : ((x : Int) / 2 ^ r) = ((x / 2 ^ r : Nat) : Int) := by simp
 have hlt : x / 2 ^ r < 18446744073709551616 := Nat.lt_of_le_of_lt (Nat.div_le_self _ _) hx;rw [e, show (1 : Int) = ((1 : Nat) : Int) from rfl, u64_and_nat _ 1 hlt (by decide), Nat.and_one_is_mod, Nat.testBit_eq_decide_div_mod_eq];rw [Bool.eq_iff_iff];simp;omega
theorem pow_lt64 (r : Nat) (hr : r < 64) : (2 : Nat) ^ r < 18446744073709551616 := by
 have h : (2 : Nat) ^ r < 2 ^ 64 := Nat.pow_lt_pow_right (by decide) hr;exact h
theorem or_val (x r : Nat) (hx : x < 18446744073709551616) (hr : r < 64) : bits .or .u64 (x : Int) (IntKind.u64.wrap ((2 : Int) ^ r)) = ((x ||| 2 ^ r : Nat) : Int) := by
 rw [wrap_pow r hr];exact u64_or_nat x (2 ^ r) hx (pow_lt64 r hr)
open Go.Lib hiding intOf
attribute [local go_sem ↓] Go.wp_at_zero Go.wp_at_succ
theorem kwith_any (K k : Nat) (w : World) (hK : K < 18446744073709551616) (hk : k < 64) :
  Calls Tryz.prog 66 #[.int .u64 K, .int .i64 k] w fun e w' => e = .returned (.int .u64 ((K ||| 2 ^ k : Nat) : Int)) ∧ w = w' := by
 have h0 : (0 : Int) ≤ (k : Int) := Int.natCast_nonneg _;have h64 : (k : Int) < 64 := by omega
 go_enter Tryz.func66, Tryz.ntmps66;go_wp2
 go_ret
 exact ⟨by rw [or_val K k hK hk]; rfl, rfl⟩
theorem khas_any (K k : Nat) (w : World) (hK : K < 18446744073709551616) (hk : k < 64) :
  Calls Tryz.prog 67 #[.int .u64 K, .int .i64 k] w fun e w' => e = .returned (.bool (K.testBit k)) ∧ w = w' := by
 have h0 : (0 : Int) ≤ (k : Int) := Int.natCast_nonneg _;have h64 : (k : Int) < 64 := by omega
 go_enter Tryz.func67, Tryz.ntmps67;go_wp2
 go_ret
 exact ⟨by rw [test_val K k hK]; rfl, rfl⟩
end Go.Proofs.YthdofaoamljkfaaGreatDoor
namespace Go.Proofs.YthdofaoamljkfaaGreatDoor
open Go.RowKit
theorem own_two {w : World} {base base' : Nat} {e e' : TypeId} {size size' : Nat} {v v' : Value} {n n' : Nat} {xs xs' : List Value} (h : w.ownsRow base e size v n xs) (h' : w.ownsRow base' e' size' v' n' xs') (hne : e ≠ e') :
  ∀ g, v.ownBlock = some g → g ∉ v'.ownBlock.toList := fun g hg hm => by
 obtain ⟨cur, hb⟩ := own_blk h hg;exact own_apart h' hb (Ne.symm hne) hm
theorem own_off {w : World} {base : Nat} {e : TypeId} {size : Nat} {v : Value} {n : Nat} {xs : List Value} (h : w.ownsRow base e size v n xs) {b : Nat} (hb : b < base) : b ∉ v.ownBlock.toList := fun hm => by
 cases hv : v.ownBlock with
 | none => rw [hv] at hm; cases hm
 | some g =>
  rw [hv] at hm;simp at hm;subst hm;have := (h.lt b hv).1;omega
theorem own_lower {w : World} {base base' : Nat} {e : TypeId} {size : Nat} {v : Value} {n : Nat} {xs : List Value} (h : w.ownsRow base e size v n xs) (hb : base' ≤ base) : w.ownsRow base' e size v n xs := by
 obtain ⟨hl, hv⟩ := h;refine ⟨hl, ?_⟩;rcases hv with hv | ⟨g, cap, cur, rfl, h1, rest⟩
 ·exact .inl hv
 ·exact .inr ⟨g, cap, cur, rfl, Nat.le_trans hb h1, rest⟩
theorem info_int : (Tryz.prog.info? 3).map (fun i => (i.zero, i.size, i.bytes)) = some (some (.int .i64 0), 1, 8) := by kernel_rfl
open Go.Lib hiding intOf
attribute [local go_sem ↓] Go.wp_at_zero Go.wp_at_succ
theorem kouter_any (A : Option Addr) (m c B : Nat) (ops : List Op4) (w : World) (hg : Row w B A (opC ops)) (hm : ops.length = m) (hM : m ≤ 1000) (hk : KeyOk ops) :
  Calls Tryz.prog 43 #[.slice A m c] w fun e w' => ∃ V, (e = .returned V ∧ w'.ownsRow w.heap.size 3 1 V (outI ops).length ((outI ops).map (Value.int .i64))) ∧ Only [] w w' := by
 obtain ⟨i0, hi, hz0, hz1, hz2⟩ := info_parts info_int;have HG := Hd hg;have HMM := Hd hm;have HK := Hd hk;have HO0 := Hd (Only.refl [] w);clear hg hm hk;go_enter Tryz.func43, Tryz.ntmps43;go_wp2_with fail
 go_loopw [3, 4, 9] (fun V K iv wr => ∃ j : Nat, iv = .int .i64 j ∧ j ≤ m ∧ K = .int .u64 (keyM (ops.take j) : Int) ∧ Hid (wr.ownsRow w.heap.size 3 1 V (outN ops j).length ((outN ops j).map (Value.int .i64))) ∧ Hid (Only [] w wr)) (fun _ _ iv _ => m - (intOf iv).toNat)
 case atStart => exact ⟨0, rfl, by omega, rfl, Hd ⟨rfl, .inl ⟨rfl, rfl⟩⟩, HO0⟩
 case round =>
  obtain ⟨j, rfl, hj, rfl, hV, hO⟩ := hrel;have hsz := hO.out.size
  by_cases hlt : j < m
  ·obtain ⟨y, hy⟩ : ∃ y, ops[j]? = some y := ⟨_, List.getElem?_eq_getElem (by rw [HMM.out]; exact hlt)⟩;obtain ⟨b, off, rfl, -, hbw, hP⟩ := row_op HG.out hy;obtain ⟨p0, p1, p2, p3⟩ := hP.only hO.out hbw (by simp);obtain ⟨hy0, hy40⟩ := HK.out y (List.mem_of_getElem? hy);have HBT := Hd (outN_step hy);have HKT := Hd (keyM_take hy);have HKL := Hd (keyM_lt _ (keyOk_take HK.out j));have hbl := outN_le ops j;obtain ⟨yw, yk, yv, yn⟩ := y;dsimp only at p0 p1 p2 p3 hy0 hy40 HKT HBT;obtain ⟨q, rfl⟩ : ∃ q : Nat, yk = q := ⟨yk.toNat, by omega⟩;have hq : q < 40 := by omega
   have HKB := Hd (keyM_bit _ (keyOk_take HK.out j) q);have h01 : (j : Int) < (m : Int) := by omega
   have hj0 : (0 : Int) ≤ (j : Int) := Int.natCast_nonneg _;have hwj : IntKind.i64.wrap ((j : Int) + 1) = (j : Int) + 1 := IntWalk.i64_in _ (by omega);have hbr : b < wr.heap.size := by omega
   clear hP hy;generalize keyM (ops.take j) = K at *;go_upto_region 6 with (fail)
   have O2 : Only [] wr (wr.alloc (.cells #[.bool yw, .int .i64 q, .int .i64 yv, .int .i64 yn] 70)) := (Only.refl [] wr).alloc _;have HT2 := Hd (Blk.made wr 70 #[.bool yw, .int .i64 q, .int .i64 yv, .int .i64 yn]);have HV2 := Hd (own_only hV.out O2 (by simp));have HO2 := Hd (hO.out.trans O2);clear p0 p1 p2 p3 O2 hV hO hbr hbw;generalize (wr.alloc (.cells #[.bool yw, .int .i64 q, .int .i64 yv, .int .i64 yn] 70)) = w2 at *;generalize wr.heap.size = gt at *;have lT := HT2.out.lt;have t0 := HT2.out.at_ 0;have t1 := HT2.out.at_ 1;simp at t0 t1
   cases yw with
   | true =>
    have HB1 : Hid (outN ops (j + 1) = outN ops j) := Hd (by rw [HBT.out]; simp [outAt]);have HK1 : Hid (((K ||| 2 ^ q : Nat) : Int) = (keyM (ops.take (j + 1)) : Int)) := Hd (by rw [HKT.out]; unfold keyStep; simp);have HWI := Hd (fun w' => kwith_any K q w' HKL.out (by omega));have HV8 : Hid (w2.ownsRow w.heap.size 3 1 u3 (outN ops (j + 1)).length ((outN ops (j + 1)).map (Value.int .i64))) := Hd (by rw [HB1.out]; exact HV2.out);clear HB1 HKT HBT HV2 HKB;go_wp2_with fail
    refine (HWI.out _).mono ?_;rintro e w5 ⟨rfl, rfl⟩;go_wp2
    go_roundw
    case rel => exact ⟨j + 1, by go_num, by omega, by rw [← HK1.out], HV8, HO2⟩
    case measure => simp [intOf]; omega
   | false =>
    have HK1 : Hid ((K : Int) = (keyM (ops.take (j + 1)) : Int)) := Hd (by rw [HKT.out]; unfold keyStep; simp);have HHA := Hd (fun w' => khas_any K q w' HKL.out (by omega));have HB1 : Hid (outN ops (j + 1) = outN ops j ++ if K.testBit q = true then [] else [(j : Int)]) := Hd (by
     rw [HBT.out, HKB.out];unfold outAt
     cases (leftW (q : Int) (ops.take j)).isSome <;> rfl)
    clear HKT HBT HKB;generalize K.testBit q = d at *;go_wp2_with fail
    refine (HHA.out _).mono ?_;rintro e w5 ⟨rfl, rfl⟩;clear HHA lT t0 t1 HT2
    cases d with
    | true =>
     have HV8 : Hid (w2.ownsRow w.heap.size 3 1 u3 (outN ops (j + 1)).length ((outN ops (j + 1)).map (Value.int .i64))) := Hd (by rw [HB1.out, if_pos rfl, List.append_nil]; exact HV2.out);clear HB1 HV2;go_wp2
     go_roundw
     case rel => exact ⟨j + 1, by go_num, by omega, by rw [← HK1.out], HV8, HO2⟩
     case measure => simp [intOf]; omega
    | false =>
     rw [if_neg (by decide)] at HB1;go_wp2_with (at_builtin; refine wpList_append_row _ rfl (.tmp 27) (.tmp 29) _ rfl w.heap.size 3 i0 _ 1 8 Tryz.underlying26 hi hz0 hz1 hz2 rfl (by omega) _ _ _ rfl (own_only HV2.out ((Only.refl [] _).alloc _) (by simp)) (w2.heap.size + 1) (some ⟨w2.heap.size, 0, none⟩) 1 1 [.int .i64 (j : Int)] rfl rfl (row_lit w2 3 #[.int .i64 (j : Int)]) (by simp [Value.oneCell']) (by unfold maxLen; omega) (by omega) (by have := HO2.out.size; simp; omega) ?_; intro v4 w4 hown4 hgrow hat)
     have HV4 : Hid (w4.ownsRow w.heap.size 3 1 v4 (outN ops (j + 1)).length ((outN ops (j + 1)).map (Value.int .i64))) := Hd (by rw [HB1.out]; simpa using hown4);have hgr : World.grownBy (w2.alloc (.cells #[.int .i64 (j : Int)] 3)) w4 u3.ownBlock := hgrow;have HO4 := Hd ((HO2.out.alloc _).step (only_grown hgr) (fun i hi hl => by have := (HV2.out.lt i (by simpa using hi)).1; omega));clear hown4 hgrow hat hgr;go_wp2
     go_roundw
     case rel => exact ⟨j + 1, by go_num, by omega, by rw [← HK1.out], HV4, HO4⟩
     case measure => simp [intOf]; omega
  ·have hjm : j = m := by omega
   subst hjm;have hd2 : decide ((j : Int) < (j : Int)) = false := by simp
   have HVV : Hid (wr.ownsRow w.heap.size 3 1 u3 (outI ops).length ((outI ops).map (Value.int .i64))) := Hd (by
    have := hV.out
    rwa [outN_all ops (by rw [HMM.out]; exact Nat.le_refl _)] at this)
   clear hV;go_wp2
   go_ret
   exact ⟨_, ⟨rfl, HVV.out⟩, hO.out⟩
theorem iscom_any (s f : Int) (A : Option Addr) (m c : Nat) (w : World) :
  Calls Tryz.prog 65 #[.agg #[.int .i64 s, .int .i64 f, .slice A m c]] w fun e w' => e = .returned (.bool (decide (f = 1))) ∧ Only [] w w' := by
 by_cases h : f = 1
 ·subst h;go_enter Tryz.func65, Tryz.ntmps65;go_wp2
  go_ret
  exact ⟨rfl, (Only.refl _ _).alloc _⟩
 ·have h1 : (f == 1) = false := by simpa using h
  have h2 : Hid (decide (f = 1) = false) := Hd (decide_eq_false h);clear h;go_enter Tryz.func65, Tryz.ntmps65;go_wp2
  go_ret
  exact ⟨by rw [h2.out]; rfl, (Only.refl _ _).alloc _⟩
theorem whichC_any (A0 A1 A2 : Option Addr) (n0 n1 n2 c0 c1 c2 B : Nat) (h : Hst) (w : World) (hg : LRow w B A2 h.l) (hn2 : h.l.length = n2) (hM : n2 ≤ 1000) :
  Calls Tryz.prog 64 #[hval A0 A1 A2 n0 n1 n2 c0 c1 c2, .func (.func 65) #[] #[]] w fun e w' =>
   ∃ V, (e = .returned V ∧ w'.ownsRow w.heap.size 3 1 V (whichL (fun t => decide (t.f = 1)) h.l).length ((whichL (fun t => decide (t.f = 1)) h.l).map (Value.int .i64))) ∧ Only [] w w' := by
 unfold hval;have HIS := Hd (fun s f A m c w' => iscom_any s f A m c w');obtain ⟨i0, hi, hz0, hz1, hz2⟩ := info_parts info_int;have HG := Hd hg;have HN2 := Hd hn2;have HO := Hd ((Only.refl [] w).alloc (.cells #[.slice A0 n0 c0, .slice A1 n1 c1, .slice A2 n2 c2] 25));clear hg hn2;obtain ⟨q, hq⟩ : ∃ q : Tx → Bool, q = fun t => decide (t.f = 1) := ⟨_, rfl⟩;rw [← hq];have HQ := Hd hq;clear hq;go_enter Tryz.func64, Tryz.ntmps64;go_wp2_with fail
 go_loopw [5, 11] (fun V iv wr => ∃ k : Nat, iv = .int .i64 k ∧ k ≤ n2 ∧ Hid (wr.ownsRow w.heap.size 3 1 V (whichL q (h.l.take k)).length ((whichL q (h.l.take k)).map (Value.int .i64))) ∧ Hid (Only [] w wr)) (fun _ iv _ => n2 - (intOf iv).toNat)
 case atStart => exact ⟨0, rfl, by omega, Hd ⟨rfl, .inl ⟨rfl, rfl⟩⟩, HO⟩
 case round =>
  obtain ⟨k, rfl, hk, hV, hO⟩ := hrel;have hsz := hO.out.size
  by_cases hlt : k < n2
  ·obtain ⟨x, hx⟩ : ∃ x, h.l[k]? = some x := ⟨_, List.getElem?_eq_getElem (by rw [HN2.out]; exact hlt)⟩;obtain ⟨b, off, A', cp, rfl, -, hbw, hT, hOk⟩ := HG.out.at_ hx;obtain ⟨a0, a1, a2⟩ := hT.only hO.out hbw (by simp);have HWT := Hd (which_take (p := q) hx);have hwl := which_le q (h.l.take k);rw [List.length_take] at hwl;obtain ⟨s, f, ops⟩ := x;dsimp only at a0 a1 a2;generalize hm : ops.length = m at *;have h01 : (k : Int) < (n2 : Int) := by omega
   have hk0 : (0 : Int) ≤ (k : Int) := Int.natCast_nonneg _;have hwk : IntKind.i64.wrap ((k : Int) + 1) = (k : Int) + 1 := IntWalk.i64_in _ (by omega);have hbr : b < wr.heap.size := by omega
   have HQX : Hid (q ⟨s, f, ops⟩ = decide (f = 1)) := Hd (by rw [HQ.out]);clear hT hOk hx hm;go_upto_region 5 with (fail)
   have O2 : Only [] wr (wr.alloc (.cells #[.int .i64 s, .int .i64 f, .slice A' m cp] 47)) := (Only.refl [] wr).alloc _;have bT := Blk.made wr 47 #[.int .i64 s, .int .i64 f, .slice A' m cp];have HV2 := Hd (own_only hV.out O2 (by simp));have HO2 := Hd (hO.out.trans O2);clear a0 a1 a2 O2 hV hO;generalize (wr.alloc (.cells #[.int .i64 s, .int .i64 f, .slice A' m cp] 47)) = w2 at *;generalize wr.heap.size = gt at *;have lT := bT.lt;have t0 := bT.at_ 0;have t1 := bT.at_ 1;have t2 := bT.at_ 2;simp at t0 t1 t2;clear bT;have HF := Hd (HIS.out s f A' m cp w2)
   cases hf : decide (f = 1) with
   | false =>
    rw [hf] at HF HQX;have HE : Hid (whichL q (h.l.take (k + 1)) = whichL q (h.l.take k)) := Hd (by rw [HWT.out, HQX.out]; simp);clear hf;go_wp2_with fail
    refine (HF.out).mono ?_;rintro e w3 ⟨rfl, O3⟩;have HV3 := Hd (own_only HV2.out O3 (by simp));have HO3 := Hd (HO2.out.trans O3);clear O3;go_wp2
    go_roundw
    case rel => exact ⟨k + 1, by go_num, by omega, Hd (by rw [HE.out]; exact HV3.out), HO3⟩
    case measure => simp [intOf]; omega
   | true =>
    rw [hf] at HF HQX;have HE : Hid (whichL q (h.l.take (k + 1)) = whichL q (h.l.take k) ++ [(k : Int)]) := Hd (by rw [HWT.out, HQX.out]; simp);clear hf;go_wp2_with fail
    refine (HF.out).mono ?_;rintro e w3 ⟨rfl, O3⟩;have HV3 := Hd (own_only HV2.out O3 (by simp));have HO3 := Hd (HO2.out.trans O3);clear O3;go_wp2_with (at_builtin; refine wpList_append_row _ rfl (.tmp 19) (.tmp 21) _ rfl w.heap.size 3 i0 _ 1 8 Tryz.underlying26 hi hz0 hz1 hz2 rfl (by omega) _ _ _ rfl (own_only HV3.out ((Only.refl [] _).alloc _) (by simp)) (w3.heap.size + 1) (some ⟨w3.heap.size, 0, none⟩) 1 1 [.int .i64 (k : Int)] rfl rfl (row_lit w3 3 #[.int .i64 (k : Int)]) (by simp [Value.oneCell']) (by unfold maxLen; omega) (by omega) (by have := HO3.out.size; simp; omega) ?_; intro v4 w4 hown4 hgrow hat)
    have REL : w4.ownsRow w.heap.size 3 1 v4 (whichL q (h.l.take (k + 1))).length ((whichL q (h.l.take (k + 1))).map (Value.int .i64)) ∧ Only [] w w4 := by
     refine ⟨?_, (HO3.out.alloc _).step (only_grown hgrow) (own_new HV3.out)⟩;rw [HE.out]
     simpa using hown4
    have HREL := Hd REL;clear REL hown4;go_wp2
    go_roundw
    case rel => first | exact ⟨k + 1, by go_num, by omega, Hd HREL.out.1, Hd HREL.out.2⟩ | exact ⟨_, ⟨k + 1, by go_num, by omega, Hd HREL.out.1, Hd HREL.out.2⟩, rfl⟩
    case measure => simp [intOf]; omega
  ·have hkn : k = n2 := by omega
   subst hkn;have hd2 : decide ((k : Int) < (k : Int)) = false := by simp
   have HVV : Hid (wr.ownsRow w.heap.size 3 1 u5 (whichL q h.l).length ((whichL q h.l).map (Value.int .i64))) := Hd (by
    have := hV.out
    rwa [List.take_of_length_le (by rw [HN2.out]; exact Nat.le_refl _)] at this)
   clear hV;go_wp2
   go_ret
   exact ⟨_, ⟨rfl, HVV.out⟩, hO.out⟩
theorem kcom_any (A0 A1 A2 : Option Addr) (n0 n1 n2 c0 c1 c2 B : Nat) (h : Hst) (w : World) (hg : LRow w B A2 h.l) (hn2 : h.l.length = n2) (hM : n2 ≤ 1000) :
  Calls Tryz.prog 42 #[hval A0 A1 A2 n0 n1 n2 c0 c1 c2] w fun e w' =>
   ∃ A c, (e = .returned (.slice A (whichL (fun t => decide (t.f = 1)) h.l).length c) ∧ Row w' w'.heap.size A ((whichL (fun t => decide (t.f = 1)) h.l).map (Value.int .i64))) ∧ Only [] w w' := by
 have HX := Hd (fun w' (O : Only [] w w') => whichC_any A0 A1 A2 n0 n1 n2 c0 c1 c2 B h w' (hg.only O (fun _ h => by cases h)) hn2 hM);unfold hval at HX ⊢;clear hg hn2;have O1 : Only [] w (w.alloc (.cells #[.slice A0 n0 c0, .slice A1 n1 c1, .slice A2 n2 c2] 25)) := (Only.refl [] w).alloc _;have HF := Hd (HX.out _ O1);have HO1 := Hd O1;clear O1;generalize (whichL (fun t => decide (t.f = 1)) h.l) = L at *;go_enter Tryz.func42, Tryz.ntmps42;go_wp2_with fail
 refine (HF.out).mono ?_;rintro e w3 ⟨V, ⟨rfl, hV⟩, O3⟩;have HO3 := Hd (HO1.out.trans O3);obtain ⟨A, c, rfl, -, -, -, hR⟩ := own_row hV;have HR := Hd hR;clear O3 hV hR;go_wp2
 go_ret
 exact ⟨_, _, ⟨rfl, HR.out⟩, HO3.out⟩
end Go.Proofs.YthdofaoamljkfaaGreatDoor
namespace Go.Proofs.YthdofaoamljkfaaGreatDoor
open Go.RowKit
open Go.Lib hiding intOf
def short11 (s : ByteArray) : ByteArray := s.extract 0 (min s.size 100)
theorem short11_size (s : ByteArray) : (short11 s).size ≤ 100 := by
 unfold short11;rw [ByteArray.size_extract];omega
theorem short11_same {s : ByteArray} (h : s.size ≤ 100) : short11 s = s := by
 unfold short11;rw [Nat.min_eq_left h];exact by_inj (by rw [by_extract, List.drop_zero, List.take_of_length_le (by rw [by_length]; exact Nat.le_refl _)])
def fewTx (t : Tx) : Tx := { t with ops := t.ops.take 25 }
def fewH (h : Hst) : Hst := ⟨(h.ss.take 25).map short11, (h.ks.take 45).map short11, (h.l.take 45).map fewTx⟩
theorem few_names (l : List ByteArray) (n : Nat) : (((l.take n).map short11).take n).map short11 = (l.take n).map short11 := by
 rw [List.take_of_length_le (by rw [List.length_map, List.length_take]; omega)]
 conv => rhs; rw [← List.map_id ((l.take n).map short11)]
 refine List.map_congr_left fun z hz => ?_;obtain ⟨y, -, rfl⟩ := List.mem_map.1 hz;exact short11_same (short11_size y)
theorem few_few (h : Hst) : fewH (fewH h) = fewH h := by
 unfold fewH;rw [few_names, few_names]
 congr 1
 dsimp only;rw [List.take_of_length_le (by rw [List.length_map, List.length_take]; omega)]
 conv => rhs; rw [← List.map_id ((h.l.take 45).map fewTx)]
 refine List.map_congr_left fun z hz => ?_;obtain ⟨y, -, rfl⟩ := List.mem_map.1 hz;unfold fewTx;dsimp only;rw [List.take_of_length_le (by rw [List.length_take]; omega)]
 rfl
theorem few_small (h : Hst) : HSmall (fewH h) where
 s := fun x hx => by
  obtain ⟨y, -, rfl⟩ := List.mem_map.1 hx;have := short11_size y;omega
 k := fun x hx => by
  obtain ⟨y, -, rfl⟩ := List.mem_map.1 hx;have := short11_size y;omega
 ns := by unfold fewH; dsimp only; rw [List.length_map, List.length_take]; omega
 nk := by unfold fewH; dsimp only; rw [List.length_map, List.length_take]; omega
 nl := by unfold fewH; dsimp only; rw [List.length_map, List.length_take]; omega
 no := fun t ht => by
  obtain ⟨y, -, rfl⟩ := List.mem_map.1 ht;unfold fewTx;dsimp only;rw [List.length_take];omega
end Go.Proofs.YthdofaoamljkfaaGreatDoor
