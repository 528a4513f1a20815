/- Parts. -/
import Derived.Test.YthdofaoamljkfaaGreatDoorLaw24AllK22
import Derived.Test.YthdofaoamljkfaaGreatDoorLaw24AllK15
set_option maxRecDepth 10000
set_option maxHeartbeats 16000000
set_option linter.unusedVariables false
set_option linter.unusedSimpArgs false
namespace Go.Proofs.YthdofaoamljkfaaGreatDoor
open Go.RowKit
open Go.Lib hiding intOf
attribute [local go_sem ↓] Go.wp_at_zero Go.wp_at_succ


end Go.Proofs.YthdofaoamljkfaaGreatDoor
namespace Go.Proofs.YthdofaoamljkfaaGreatDoor
open Go.RowKit Go.Shelf
open Go.Lib hiding intOf
attribute [local go_sem] Oper.semAt_some

end Go.Proofs.YthdofaoamljkfaaGreatDoor
namespace Go.Proofs.YthdofaoamljkfaaGreatDoor
open Go.RowKit
open Go.Lib hiding intOf
attribute [local go_sem ↓] Go.wp_at_zero Go.wp_at_succ

theorem rlost_any (A0 A1 A2 : Option Addr) (n0 n1 n2 c0 c1 c2 B : Nat) (h : Hst) (w : World) (hg : LRow w B A2 h.l) (hn2 : h.l.length = n2) (hM : n2 ≤ 1000) (hno : ∀ t ∈ h.l, t.ops.length ≤ 1000) :
  Calls Tryz.prog 31 #[hval A0 A1 A2 n0 n1 n2 c0 c1 c2] w fun e w' =>
   ∃ A c, (e = .returned (.slice A (lostP (plsL h.l)).length c) ∧ Row w' w'.heap.size A (placeC (lostP (plsL h.l)))) ∧ Only [] w w' := by
 unfold hval;obtain ⟨i0, hi, hz0, hz1, hz2⟩ := info_parts info_place;have HG := Hd hg;have HN2 := Hd hn2;have HNO := Hd hno;have HO := Hd (((Only.refl [] w).alloc (.cells #[.slice A0 n0 c0, .slice A1 n1 c1, .slice A2 n2 c2] 25)).alloc (.cells #[] 56));have HB := Hd ((Blk.made w 25 #[.slice A0 n0 c0, .slice A1 n1 c1, .slice A2 n2 c2]).alloc (.cells #[] 56));have HV := Hd (World.ownsRow_lit (w.alloc (.cells #[.slice A0 n0 c0, .slice A1 n1 c1, .slice A2 n2 c2] 25)) (e := 56) (size := 2) #[] 0 (Nat.le_refl _) (by unfold maxLen; omega) rfl);rw [World.size_alloc] at HV;clear hg hn2 hno;go_enter Tryz.func31, Tryz.ntmps31;go_wp2_with fail
 go_loopw [3, 4] (fun V iv wr => ∃ k : Nat, iv = .int .i64 k ∧ k ≤ n2 ∧ Hid (wr.ownsRow (w.heap.size + 1) 56 2 V (lostP (plsL (h.l.take k))).length (placeC (lostP (plsL (h.l.take k))))) ∧ Hid (Blk wr w.heap.size 25 #[.slice A0 n0 c0, .slice A1 n1 c1, .slice A2 n2 c2]) ∧ Hid (Only [] w wr)) (fun _ iv _ => n2 - (intOf iv).toNat)
 case atStart => exact ⟨0, rfl, by omega, HV, HB, HO⟩
 case round =>
  obtain ⟨k, rfl, hk, hV, hB, hO⟩ := hrel;clear HV HB HO
  by_cases hlt : k < n2
  ·obtain ⟨x, hx⟩ : ∃ x, h.l[k]? = some x := ⟨_, List.getElem?_eq_getElem (by rw [HN2.out]; exact hlt)⟩;obtain ⟨b, off, A', cp, rfl, -, hbw, hT, hOk⟩ := HG.out.at_ hx;have HT := Hd hT;have HPT := Hd (plsL_take hx);have hpl := plsL_len (h.l.take k) (fun t ht => HNO.out t (List.mem_of_mem_take ht));rw [List.length_take] at hpl;have hm1 := HNO.out x (List.mem_of_getElem? hx);have HROW := Hd hOk.row;obtain ⟨s, f, ops⟩ := x;dsimp only at HT HPT hm1 HROW;generalize hm : ops.length = m at *;have HMM := Hd hm;have h01 : (k : Int) < (n2 : Int) := by omega
   have hk0 : (0 : Int) ≤ (k : Int) := Int.natCast_nonneg _;have hwk : IntKind.i64.wrap ((k : Int) + 1) = (k : Int) + 1 := IntWalk.i64_in _ (by omega);have hV' : Hid (wr.ownsRow (w.heap.size + 1) 56 2 u3 (lostP (plsL (h.l.take k) ++ plsT k (ops.take 0))).length (placeC (lostP (plsL (h.l.take k) ++ plsT k (ops.take 0))))) := by simpa [plsT] using hV
   have hB' := hB;have hO' := hO;clear hT hOk hx hm hV;have lB := hB'.out.lt;have b2 := hB'.out.at_ 2;simp at b2;go_wp2_with fail
   clear lB b2 hB hO
   go_loopw [3, 5] (fun V iv wr => ∃ j : Nat, iv = .int .i64 j ∧ j ≤ m ∧ Hid (wr.ownsRow (w.heap.size + 1) 56 2 V (lostP (plsL (h.l.take k) ++ plsT k (ops.take j))).length (placeC (lostP (plsL (h.l.take k) ++ plsT k (ops.take j))))) ∧ Hid (Blk wr w.heap.size 25 #[.slice A0 n0 c0, .slice A1 n1 c1, .slice (some ⟨b, off, none⟩) n2 c2]) ∧ Hid (Only [] w wr)) (fun _ iv _ => m - (intOf iv).toNat)
   case atStart => exact ⟨0, rfl, by omega, hV', hB', hO'⟩
   case round =>
    obtain ⟨j, rfl, hj, hV, hB, hO⟩ := hrel;clear hV' hB' hO';have hsz := hO.out.size;have lB := hB.out.lt;have b2 := hB.out.at_ 2;simp at b2;obtain ⟨a0, a1, a2⟩ := HT.out.only hO.out hbw (by simp);dsimp only at a2;rw [HMM.out] at a2;have hbr : b < wr.heap.size := by omega
    clear a0 a1
    by_cases hlt2 : j < m
    ·obtain ⟨y, hy⟩ : ∃ y, ops[j]? = some y := ⟨_, List.getElem?_eq_getElem (by rw [HMM.out]; exact hlt2)⟩;obtain ⟨b', off', rfl, -, hbw', hP⟩ := row_op HROW.out hy;obtain ⟨p0, p1, p2, p3⟩ := hP.only hO.out hbw' (by simp);have HTT := Hd (plsT_take (i := k) hy);have hll := lostP_le (plsL (h.l.take k) ++ plsT k (ops.take j));rw [List.length_append, plsT_len, List.length_take] at hll;obtain ⟨yw, yk, yv, yn⟩ := y;dsimp only at p0 p1 p2 p3;have h02 : (j : Int) < (m : Int) := by omega
     have hj0 : (0 : Int) ≤ (j : Int) := Int.natCast_nonneg _;have hwj : IntKind.i64.wrap ((j : Int) + 1) = (j : Int) + 1 := IntWalk.i64_in _ (by omega);have hbr' : b' < wr.heap.size := by omega
     clear hP hy p0 p1 p3
     by_cases hv2 : yv = 2
     ·have HE : Hid (lostP (plsL (h.l.take k) ++ plsT k (ops.take (j + 1))) = lostP (plsL (h.l.take k) ++ plsT k (ops.take j)) ++ [((k : Int), (j : Int))]) := Hd (by
       rw [HTT.out, ← List.append_assoc, lostP_hit _ (by exact hv2)])
      subst hv2;go_wp2_with (at_builtin; refine wpList_append_row _ rfl (.tmp 37) (.tmp 41) _ rfl (w.heap.size + 1) 56 i0 _ 2 16 Tryz.underlying29 hi hz0 hz1 hz2 rfl (by omega) _ _ _ rfl (own_only hV.out ((Only.refl [] _).alloc _) (by simp)) (wr.heap.size + 1) (some ⟨wr.heap.size, 0, none⟩) 1 1 [.int .i64 (k : Int), .int .i64 (j : Int)] rfl rfl (row_lit wr 56 #[.int .i64 (k : Int), .int .i64 (j : Int)]) (by intro u hu; simp at hu; rcases hu with rfl | rfl <;> rfl) (by unfold maxLen; omega) (by omega) (by simp; omega) ?_; intro v4 w4 hown4 hgrow hat)
      have hb1 := hB.out.alloc (.cells #[.int .i64 (k : Int), .int .i64 (j : Int)] 56);have hv1 := own_only hV.out ((Only.refl [] wr).alloc (.cells #[.int .i64 (k : Int), .int .i64 (j : Int)] 56)) (by simp);have REL : w4.ownsRow (w.heap.size + 1) 56 2 v4 (lostP (plsL (h.l.take k) ++ plsT k (ops.take (j + 1)))).length (placeC (lostP (plsL (h.l.take k) ++ plsT k (ops.take (j + 1))))) ∧ Blk w4 w.heap.size 25 #[.slice A0 n0 c0, .slice A1 n1 c1, .slice (some ⟨b, off, none⟩) n2 c2] ∧ Only [] w w4 := by
       refine ⟨?_, (only_grown hgrow).blk hb1 (own_apart hv1 hb1 (by decide)), (hO.out.alloc _).step (only_grown hgrow) (fun i hi hl => own_new hV.out (S := []) i hi (by omega))⟩;rw [HE.out, placeC_append]
       simpa [placeC] using hown4
      have HREL := Hd REL;clear REL hown4 lB b2 a2 p2 hb1 hv1;go_wp2
      go_roundw
      case rel => first | exact ⟨j + 1, by go_num, by omega, Hd HREL.out.1, Hd HREL.out.2.1, Hd HREL.out.2.2⟩ | exact ⟨_, ⟨j + 1, by go_num, by omega, Hd HREL.out.1, Hd HREL.out.2.1, Hd HREL.out.2.2⟩, rfl⟩
      case measure => simp [intOf]; omega
     ·have HE : Hid (lostP (plsL (h.l.take k) ++ plsT k (ops.take (j + 1))) = lostP (plsL (h.l.take k) ++ plsT k (ops.take j))) := Hd (by
       rw [HTT.out, ← List.append_assoc, lostP_miss _ (by exact hv2)])
      have hf1 : (yv == 2) = false := by simpa using hv2
      clear hv2;go_wp2
      go_roundw
      case rel => exact ⟨j + 1, by go_num, by omega, Hd (by rw [HE.out]; exact hV.out), hB, hO⟩
      case measure => simp [intOf]; omega
    ·have hjm : j = m := by omega
     subst hjm;have hd3 : decide ((j : Int) < (j : Int)) = false := by simp
     have hVE : Hid (wr.ownsRow (w.heap.size + 1) 56 2 u3 (lostP (plsL (h.l.take (k + 1)))).length (placeC (lostP (plsL (h.l.take (k + 1)))))) := Hd (by
      have := hV.out;rw [show ops.take j = ops from List.take_of_length_le (by rw [HMM.out]; exact Nat.le_refl _)] at this;rw [HPT.out];exact this)
     clear hV;go_wp2
     go_roundw
     case rel => exact ⟨k + 1, by go_num, by omega, hVE, hB, hO⟩
     case measure => simp [intOf]; omega
  ·have hkn : k = n2 := by omega
   subst hkn;have lB := hB.out.lt;have b2 := hB.out.at_ 2;simp at b2;have hd2 : decide ((k : Int) < (k : Int)) = false := by simp
   have hVV := hV.out;rw [List.take_of_length_le (by rw [HN2.out]; exact Nat.le_refl _)] at hVV;obtain ⟨A, c, rfl, -, -, -, hR⟩ := own_row hVV;have HR := Hd hR;clear hV hVV hR;go_wp2
   go_ret
   first | exact ⟨⟨_, ⟨_, rfl⟩, HR.out⟩, hO.out⟩ | exact ⟨_, _, ⟨rfl, HR.out⟩, hO.out⟩
theorem rinfos_any (A0 A1 A2 : Option Addr) (n0 n1 n2 c0 c1 c2 B : Nat) (h : Hst) (w : World) (hg : LRow w B A2 h.l) (hn2 : h.l.length = n2) (hM : n2 ≤ 1000) :
  Calls Tryz.prog 30 #[hval A0 A1 A2 n0 n1 n2 c0 c1 c2] w fun e w' =>
   ∃ A c, (e = .returned (.slice A (whichL (fun t => decide (t.f = 3)) h.l).length c) ∧ Row w' w'.heap.size A ((whichL (fun t => decide (t.f = 3)) h.l).map (Value.int .i64))) ∧ Only [] w w' := by
 unfold hval;obtain ⟨i0, hi, hz0, hz1, hz2⟩ := info_parts info_int;have HG := Hd hg;have HN2 := Hd hn2;have HO := Hd (((Only.refl [] w).alloc (.cells #[.slice A0 n0 c0, .slice A1 n1 c1, .slice A2 n2 c2] 25)).alloc (.cells #[] 3));have HB := Hd ((Blk.made w 25 #[.slice A0 n0 c0, .slice A1 n1 c1, .slice A2 n2 c2]).alloc (.cells #[] 3));have HV := Hd (World.ownsRow_lit (w.alloc (.cells #[.slice A0 n0 c0, .slice A1 n1 c1, .slice A2 n2 c2] 25)) (e := 3) (size := 1) #[] 0 (Nat.le_refl _) (by unfold maxLen; omega) rfl);rw [World.size_alloc] at HV;clear hg hn2;obtain ⟨q, hq⟩ : ∃ q : Tx → Bool, q = fun t => decide (t.f = 3) := ⟨_, rfl⟩;rw [← hq];have HQ := Hd hq;clear hq;go_enter Tryz.func30, Tryz.ntmps30;go_wp2_with fail
 go_loopw [3, 4] (fun V iv wr => ∃ k : Nat, iv = .int .i64 k ∧ k ≤ n2 ∧ Hid (wr.ownsRow (w.heap.size + 1) 3 1 V (whichL q (h.l.take k)).length ((whichL q (h.l.take k)).map (Value.int .i64))) ∧ Hid (Blk wr w.heap.size 25 #[.slice A0 n0 c0, .slice A1 n1 c1, .slice A2 n2 c2]) ∧ Hid (Only [] w wr)) (fun _ iv _ => n2 - (intOf iv).toNat)
 case atStart => exact ⟨0, rfl, by omega, HV, HB, HO⟩
 case round =>
  obtain ⟨k, rfl, hk, hV, hB, hO⟩ := hrel;clear HV HB HO;have hsz := hO.out.size;have lB := hB.out.lt;have b2 := hB.out.at_ 2;simp at b2
  by_cases hlt : k < n2
  ·obtain ⟨x, hx⟩ : ∃ x, h.l[k]? = some x := ⟨_, List.getElem?_eq_getElem (by rw [HN2.out]; exact hlt)⟩;obtain ⟨b, off, A', cp, rfl, -, hbw, hT, hOk⟩ := HG.out.at_ hx;obtain ⟨a0, a1, a2⟩ := hT.only hO.out hbw (by simp);have HWT := Hd (which_take (p := q) hx);have hwl := which_le q (h.l.take k);rw [List.length_take] at hwl;obtain ⟨s, f, ops⟩ := x;dsimp only at a0 a1 a2;have h01 : (k : Int) < (n2 : Int) := by omega
   have hk0 : (0 : Int) ≤ (k : Int) := Int.natCast_nonneg _;have hwk : IntKind.i64.wrap ((k : Int) + 1) = (k : Int) + 1 := IntWalk.i64_in _ (by omega);have hbr : b < wr.heap.size := by omega
   have HQX : Hid (q ⟨s, f, ops⟩ = decide (f = 3)) := Hd (by rw [HQ.out]);clear hT hOk hx a2
   by_cases hf : f = 3
   ·have HE : Hid (whichL q (h.l.take (k + 1)) = whichL q (h.l.take k) ++ [(k : Int)]) := Hd (by rw [HWT.out, HQX.out, decide_eq_true hf]; simp);subst hf;go_wp2_with (at_builtin; refine wpList_append_row _ rfl (.tmp 20) (.tmp 22) _ rfl (w.heap.size + 1) 3 i0 _ 1 8 Tryz.underlying26 hi hz0 hz1 hz2 rfl (by omega) _ _ _ rfl (own_only hV.out ((Only.refl [] _).alloc _) (by simp)) (wr.heap.size + 1) (some ⟨wr.heap.size, 0, none⟩) 1 1 [.int .i64 (k : Int)] rfl rfl (row_lit wr 3 #[.int .i64 (k : Int)]) (by simp [Value.oneCell']) (by unfold maxLen; omega) (by omega) (by simp; omega) ?_; intro v4 w4 hown4 hgrow hat)
    have hb1 := hB.out.alloc (.cells #[.int .i64 (k : Int)] 3);have hv1 := own_only hV.out ((Only.refl [] wr).alloc (.cells #[.int .i64 (k : Int)] 3)) (by simp);have REL : w4.ownsRow (w.heap.size + 1) 3 1 v4 (whichL q (h.l.take (k + 1))).length ((whichL q (h.l.take (k + 1))).map (Value.int .i64)) ∧ Blk w4 w.heap.size 25 #[.slice A0 n0 c0, .slice A1 n1 c1, .slice (some ⟨b, off, none⟩) n2 c2] ∧ Only [] w w4 := by
     refine ⟨?_, (only_grown hgrow).blk hb1 (own_apart hv1 hb1 (by decide)), (hO.out.alloc _).step (only_grown hgrow) (fun i hi hl => own_new hV.out (S := []) i hi (by omega))⟩;rw [HE.out]
     simpa using hown4
    have HREL := Hd REL;clear REL hown4 lB b2 hb1 hv1;go_wp2
    go_roundw
    case rel => first | exact ⟨k + 1, by go_num, by omega, Hd HREL.out.1, Hd HREL.out.2.1, Hd HREL.out.2.2⟩ | exact ⟨_, ⟨k + 1, by go_num, by omega, Hd HREL.out.1, Hd HREL.out.2.1, Hd HREL.out.2.2⟩, rfl⟩
    case measure => simp [intOf]; omega
   ·have HE : Hid (whichL q (h.l.take (k + 1)) = whichL q (h.l.take k)) := Hd (by rw [HWT.out, HQX.out, decide_eq_false hf]; simp);have hf1 : (f == 3) = false := by simpa using hf
    clear hf;go_wp2
    go_roundw
    case rel => exact ⟨k + 1, by go_num, by omega, Hd (by rw [HE.out]; exact hV.out), hB, hO⟩
    case measure => simp [intOf]; omega
  ·have hkn : k = n2 := by omega
   subst hkn;have hd2 : decide ((k : Int) < (k : Int)) = false := by simp
   have hVV := hV.out;rw [List.take_of_length_le (by rw [HN2.out]; exact Nat.le_refl _)] at hVV;obtain ⟨A, c, rfl, -, -, -, hR⟩ := own_row hVV;have HR := Hd hR;clear hV hVV hR;go_wp2
   go_ret
   first | exact ⟨⟨_, ⟨_, rfl⟩, HR.out⟩, hO.out⟩ | exact ⟨_, _, ⟨rfl, HR.out⟩, hO.out⟩
theorem lostN_any (l : List Op4) : l.any lostB = false ↔ lostN l = 0 := by
 unfold lostN;rw [List.length_eq_zero_iff, List.filter_eq_nil_iff, List.any_eq_false];exact Iff.rfl
theorem any_unk : ∀ l : List Tx, l.any unkB = false ↔ (l.filter infoB).length + lostT l = 0
 | [] => by simp [lostT]
 | t :: r => by
  rw [List.any_cons, Bool.or_eq_false_iff, any_unk r, lostT_cons, List.filter_cons];unfold unkB;rw [Bool.or_eq_false_iff, lostN_any]
  by_cases e : t.f = 3
  ·simp [e, infoB]
  ·have : infoB t = false := by simp [infoB, e]
   rw [this, if_neg (by simp), decide_eq_false e];exact ⟨fun ⟨⟨_, h1⟩, h2⟩ => by omega, fun h => ⟨⟨rfl, by omega⟩, by omega⟩⟩
theorem whole_count (h : Hst) : wholeB h = (mayH h && decide ((whichL (fun t => decide (t.f = 3)) h.l).length + (lostP (plsL h.l)).length = 0)) := by
 have e : (whichL (fun t => decide (t.f = 3)) h.l).length = (h.l.filter infoB).length := which_len infoB h.l;rw [whole_unk, lostP_eq, List.length_map, lostXw_len, e]
 congr 1
 have := any_unk h.l
 cases hb : h.l.any unkB
 ·rw [decide_eq_true (this.1 hb)]; rfl
 ·rw [decide_eq_false (fun e => by rw [this.2 e] at hb; cases hb)]; rfl
theorem lostN_le (l : List Op4) : lostN l ≤ l.length := List.length_filter_le _ _
theorem lostT_le : ∀ l : List Tx, (∀ t ∈ l, t.ops.length ≤ 1000) → lostT l ≤ 1000 * l.length
 | [], _ => by simp [lostT]
 | t :: r, h => by
  rw [lostT_cons, List.length_cons];have h1 := lostT_le r (fun u hu => h u (List.mem_cons_of_mem _ hu));have h2 := lostN_le t.ops;have h3 := h t List.mem_cons_self;omega
theorem wis_any (A0 A1 A2 : Option Addr) (n0 n1 n2 c0 c1 c2 B : Nat) (h : Hst) (w : World) (hg : HIn w B A0 A1 A2 n0 n1 n2 h) :
  Calls Tryz.prog 24 #[hval A0 A1 A2 n0 n1 n2 c0 c1 c2] w fun e w' => e = .returned (.bool (wholeB h)) ∧ Only [] w w' := by
 rw [whole_unk];have HMY := Hd (fun w' (O : Only [] w w') => hmay_any A0 A1 A2 n0 n1 n2 c0 c1 c2 B h w' (hg.same O));have HUN := Hd (fun w' (O : Only [] w w') => unkHas_any A2 n2 c2 B h.l w' (hg.same O).at_.r2 hg.n2 (by have := hg.sm.nl; rw [hg.n2] at this; exact this) hg.sm.no);generalize h.l.any unkB = q at *;unfold hval at *;have HO1 := Hd ((Only.refl [] w).alloc (.cells #[.slice A0 n0 c0, .slice A1 n1 c1, .slice A2 n2 c2] 25));have HB1 := Hd (Blk.made w 25 #[.slice A0 n0 c0, .slice A1 n1 c1, .slice A2 n2 c2]);clear hg
 cases hm : mayH h with
 | false =>
  rw [errH_not hm] at HMY;rw [Bool.false_and];clear HUN HB1 hm;go_enter Tryz.func24, Tryz.ntmps24;go_wp2_with fail
  refine (HMY.out _ HO1.out).mono ?_;rintro e w2 ⟨rfl, O2⟩;have HO2 := Hd (HO1.out.trans O2);clear O2;go_wp2
  go_ret
  exact ⟨rfl, HO2.out⟩
 | true =>
  rw [errH_yes hm] at HMY;rw [Bool.true_and];clear hm;go_enter Tryz.func24, Tryz.ntmps24;go_wp2_with fail
  refine (HMY.out _ HO1.out).mono ?_;rintro e w2 ⟨rfl, O2⟩;have HO2 := Hd (HO1.out.trans O2);have hb := O2.blk HB1.out (by simp);have lb := hb.lt;have y2 := hb.at_ 2;simp at y2;clear O2 hb;go_wp2_with fail
  refine (HUN.out _ HO2.out).mono ?_;rintro e w3 ⟨rfl, O3⟩;have HO3 := Hd (HO2.out.trans O3);clear O3;go_wp2
  go_ret
  exact ⟨rfl, HO3.out⟩
theorem ris17_any (A0 A1 A2 : Option Addr) (n0 n1 n2 c0 c1 c2 B : Nat) (h : Hst) (w : World) (hg : HIn w B A0 A1 A2 n0 n1 n2 h) :
  Calls Tryz.prog 12 #[hval A0 A1 A2 n0 n1 n2 c0 c1 c2] w fun e w' => e = .returned (.bool (wholeB h)) ∧ Only [] w w' := by
 rw [whole_count];have HMY := Hd (fun w' (O : Only [] w w') => refmay_any A0 A1 A2 n0 n1 n2 c0 c1 c2 B h w' (hg.same O));have HIN := Hd (fun w' (O : Only [] w w') => rinfos_any A0 A1 A2 n0 n1 n2 c0 c1 c2 B h w' (hg.same O).at_.r2 hg.n2 (by have := hg.sm.nl; rw [hg.n2] at this; exact this));have HLS := Hd (fun w' (O : Only [] w w') => rlost_any A0 A1 A2 n0 n1 n2 c0 c1 c2 B h w' (hg.same O).at_.r2 hg.n2 (by have := hg.sm.nl; rw [hg.n2] at this; exact this) hg.sm.no);have hb1 : (whichL (fun t => decide (t.f = 3)) h.l).length ≤ 1000 := Nat.le_trans (which_le _ _) hg.sm.nl;have hb2 : (lostP (plsL h.l)).length ≤ 1000000 := by
  rw [lostP_eq, List.length_map, lostXw_len];have h1 := lostT_le h.l hg.sm.no;have h2 := hg.sm.nl;omega
 generalize (whichL (fun t => decide (t.f = 3)) h.l).length = a at *;generalize (lostP (plsL h.l)).length = b at *;have hw : IntKind.i64.wrap ((a : Int) + (b : Int)) = (a : Int) + (b : Int) := IntWalk.i64_in _ (by omega);have hz : (((a : Int) + (b : Int)) == 0) = decide (a + b = 0) := by
  by_cases e : a + b = 0
  ·rw [decide_eq_true e]; simp; omega
  ·rw [decide_eq_false e]; simp; omega
 unfold hval at *;have HO1 := Hd ((Only.refl [] w).alloc (.cells #[.slice A0 n0 c0, .slice A1 n1 c1, .slice A2 n2 c2] 25));have HB1 := Hd (Blk.made w 25 #[.slice A0 n0 c0, .slice A1 n1 c1, .slice A2 n2 c2]);clear hg hb1 hb2
 cases hm : mayH h with
 | false =>
  rw [errH_not hm] at HMY;rw [Bool.false_and];clear HIN HLS hm hw hz;go_enter Tryz.func12, Tryz.ntmps12;go_upto_region 1 with (fail)
  generalize (w.alloc (.cells #[.slice A0 n0 c0, .slice A1 n1 c1, .slice A2 n2 c2] 25)) = w1 at *;generalize w.heap.size = g at *;refine rg1 [] [] w1 ?_;have OW : Only [] w1 w1.drew := (Only.refl [] w1).drew;generalize w1.drew = wz at *;refine trd (i := 0) (v := ?_) 0 ?_ ?_;rotate_left
  ·(intro wq hSw; obtain ⟨lb_H, y0, y1, y2⟩ := Bk3 (hSw.blk HB1.out (by simp)); simp at y0 y1 y2; clear hSw; go_simp; try with_reducible rfl)
  (try simp only [tdz]);refine tst (i := 1) fun K hK => ?_;go_simp;refine (HMY.out _ (HO1.out.trans OW)).mono ?_;rintro e wa ⟨rfl, Oa⟩;have OW1 := OW.trans Oa;clear Oa;refine kOut hK (OW1) (h := ?_);clear hK K;refine tQ 2 (h := tQ 3 (h := tiq 4 (h := tiq 5 (h := tiq 6 (h := tiq 7 (h := tiq 8 (h := tiq 9 (h := tiq 10 (h := tiq 11 (h := tQ 12 (h := tQ 13 (h := ?_))))))))))));refine tdn ?_;have HO2 := Hd (HO1.out.trans OW1);go_wp2
  go_ret
  exact ⟨rfl, HO2.out⟩
 | true =>
  rw [errH_yes hm] at HMY;rw [Bool.true_and, ← hz];clear hm hz;go_enter Tryz.func12, Tryz.ntmps12;go_upto_region 1 with (fail)
  generalize (w.alloc (.cells #[.slice A0 n0 c0, .slice A1 n1 c1, .slice A2 n2 c2] 25)) = w1 at *;generalize w.heap.size = g at *;have RD0 := Hd fun wq (hSw : Only [] w1 wq) => Bk3 (hSw.blk HB1.out (by simp));refine rg1 [] [] w1 ?_;have OW : Only [] w1 w1.drew := (Only.refl [] w1).drew;generalize w1.drew = wz at *;refine trq 0 0 RD0 (h := ?_);refine tst (i := 1) fun K hK => ?_;go_simp;refine (HMY.out _ (HO1.out.trans OW)).mono ?_;rintro e wa ⟨rfl, Oa⟩;have OW1 := OW.trans Oa;clear Oa;refine kOut hK (OW1) (h := ?_);clear hK K;refine tQ 2 (h := tQ 3 (h := trq 4 0 RD0 (h := trq 7 0 RD0 (h := ?_))));refine tst (i := 5) fun K hK => ?_;go_simp;refine (HIN.out _ (HO1.out.trans OW1)).mono ?_;rintro e wb ⟨Ai, ci, ⟨rfl, -⟩, Ob⟩;have OW2 := OW1.trans Ob;clear Ob;refine kOut hK (OW2) (h := ?_);clear hK K;refine tQ 6 (h := ?_);refine tst (i := 8) fun K hK => ?_;go_simp;refine (HLS.out _ (HO1.out.trans OW2)).mono ?_;rintro e wc ⟨Al, cl, ⟨rfl, -⟩, Oc⟩;have OW3 := OW2.trans Oc;clear Oc;refine kOut hK (OW3) (h := ?_);clear hK K;refine tQ 9 (h := tQ 10 (h := tQ 11 (h := tQ 12 (h := tQ 13 (h := ?_)))));refine tdn ?_;have HO2 := Hd (HO1.out.trans OW3);go_wp2
  go_ret
  exact ⟨rfl, HO2.out⟩
theorem wris_any (AV A : Option Addr) (nl cV m c B Bl : Nat) (l : List Int) (xs : List SlI) (w : World) (hV : Row w B AV (xs.map siC)) (hl : xs.length = nl) (hr : ∀ x ∈ xs, Row w B x.A (x.l.map (Value.int .i64))) (hf : ∀ x ∈ xs, x.l.length ≤ 1000)
  (hg : Row w Bl A (l.map (Value.int .i64))) (hm : l.length = m) (hM : m ≤ 100000) :
  Calls Tryz.prog 27 #[.slice AV nl cV, .slice A m c] w fun e w' => e = .returned (.bool (decide (m = nl) && isI (xs.map (fun x => x.l)) l)) ∧ Only [] w w' := by
 have O1 : Only [] w (w.alloc (.cells #[.slice AV nl cV] 31)) := (Only.refl [] w).alloc _;have HB1 := Blk.made w 31 #[.slice AV nl cV];have lB := HB1.lt;have y0 := HB1.at_ 0;simp at y0;have HC : m = nl → ChAt (w.alloc (.cells #[.slice AV nl cV] 31)) w.heap.size (w.alloc (.cells #[.slice AV nl cV] 31)).heap.size m xs := fun e =>
  ⟨⟨AV, cV, by rw [e]; exact HB1, row_up (hV.only O1 (by simp))⟩, hl.trans e.symm, fun x hx => row_up ((hr x hx).only O1 (by simp)), HB1.lt, hf⟩
 have HIS := Hd (fun e => iis_any A m c Bl w.heap.size _ l xs _ (hg.only O1 (by simp)) hm hM (HC e));have HO1 := Hd O1;clear hV hr hg hl hf hm HC HB1 O1;go_enter Tryz.func27, Tryz.ntmps27
 by_cases hmn : m = nl
 ·have h1 := HIS.out hmn;have HI2 := Hd h1;clear h1 HIS;subst hmn;rw [decide_eq_true (rfl : m = m), Bool.true_and];generalize isI (xs.map (fun x => x.l)) l = d at *;go_wp2_with fail
  refine (HI2.out).mono ?_;rintro e w3 ⟨rfl, O3⟩;have HO3 := Hd (HO1.out.trans O3);clear O3;go_wp2
  go_ret
  exact ⟨rfl, HO3.out⟩
 ·rw [decide_eq_false hmn, Bool.false_and];have hd : ¬ ((m : Int) = (nl : Int)) := by omega
  clear HIS;go_wp2
  go_ret
  exact ⟨rfl, HO1.out⟩
end Go.Proofs.YthdofaoamljkfaaGreatDoor
namespace Go.Proofs.YthdofaoamljkfaaGreatDoor
open Go.RowKit
theorem own_set {w : World} {base : Nat} {e : TypeId} {size : Nat} {v : Value} {n : Nat} {xs : List Value} {g : Nat} (h : w.ownsRow base e size v n xs) (hg : v.ownBlock = some g) {j : Nat} (hj : j < xs.length) (u : Value) :
  (w.setCell ⟨g, j, none⟩ u).ownsRow base e size v n (xs.set j u) := by
 obtain ⟨h0, ⟨rfl, -⟩ | ⟨g', cap, cur, rfl, h1, h2, h3, h4, h5, h6⟩⟩ := h
 ·simp [Value.ownBlock] at hg
 ·obtain rfl : g' = g := by simpa [Value.ownBlock] using hg
  refine ⟨by simpa using h0, .inr ⟨g', cap, cur.setIfInBounds j u, rfl, h1, Blk.put h2 j u, h3, h4, by simpa using h5, ?_⟩⟩;rw [Array.toList_setIfInBounds, ← h6];have hjl : j < n * size := by omega
  apply List.ext_getElem?
  intro k
  by_cases hk : k < n * size
  ·rw [List.getElem?_take_of_lt hk, List.getElem?_set, List.getElem?_set, List.getElem?_take_of_lt hk];have : (List.take (n * size) cur.toList).length = n * size := by rw [h6]; exact h0
   by_cases hjk : j = k
   ·subst hjk;rw [if_pos rfl, if_pos rfl, if_pos (by have h9 := this; rw [List.length_take] at h9; omega), if_pos (by rw [this]; exact hk)]
   ·rw [if_neg hjk, if_neg hjk]
  ·rw [List.getElem?_eq_none (by rw [List.length_take]; omega), List.getElem?_eq_none (by rw [List.length_set, List.length_take]; omega)]
theorem own_cell {w : World} {base : Nat} {e : TypeId} {size : Nat} {v : Value} {n : Nat} {xs : List Value} {g : Nat} (h : w.ownsRow base e size v n xs) (hg : v.ownBlock = some g) {j : Nat} {u : Value} (hj : xs[j]? = some u) :
  w.cell? ⟨g, j, none⟩ = some u ∧ w.frozen? ⟨g, j, none⟩ = false := by
 obtain ⟨cur, hb⟩ := own_blk h hg;have := h.cells hg j u hj;refine ⟨?_, hb.free j⟩;have e' : (⟨g, 0, none⟩ : Addr).add j = ⟨g, j, none⟩ := by
  unfold Addr.add
  split
  ·rename_i h; subst h; rfl
  ·simp
 rwa [e'] at this
end Go.Proofs.YthdofaoamljkfaaGreatDoor
