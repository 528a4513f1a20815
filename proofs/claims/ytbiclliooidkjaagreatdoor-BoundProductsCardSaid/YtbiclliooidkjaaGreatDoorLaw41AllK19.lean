/- Parts. -/
import Derived.Test.YtbiclliooidkjaaGreatDoorLaw41AllK18
import Derived.Deep.Cut
import Derived.RangeFuncNested
import Derived.RangeFuncBound
import Derived.RangeFuncCalls
import Derived.RangeFuncLeaves
import Derived.RangeFuncBox
import Derived.Shelf.Abstract
import Derived.Shelf.RegionOpen
import Derived.OwnWalkIn
import Derived.TacticsInMore
import Derived.LoopNIn
import Derived.LoopIn
set_option maxRecDepth 10000
set_option maxHeartbeats 16000000
set_option linter.unusedVariables false
set_option linter.unusedSimpArgs false
namespace Go.Proofs.YtbiclliooidkjaaGreatDoor
open Go.RowKit
open Go.Lib hiding intOf
attribute [local go_sem ↓] Go.wp_at_zero Go.wp_at_succ
def byR (h : Hst) (y : Int) : Hst × Int := if mayH h = true then (if y = 1 then (keptH anyOp h, 0) else if y = 2 then (keptH notLost h, 0) else (⟨[], [], []⟩, 2)) else (⟨[], [], []⟩, 4)
theorem eof_any (A0 A1 A2 : Option Addr) (n0 n1 n2 c0 c1 c2 B : Nat) (h : Hst) (w : World) (hg : HIn w B A0 A1 A2 n0 n1 n2 h) :
  Calls Tryz.prog 29 #[hval A0 A1 A2 n0 n1 n2 c0 c1 c2] w fun e w' => ∃ B0 B1 B2 d0 d1 d2, (e = .returned (.tuple #[.agg #[.slice B0 (eraR notLost h).1.ss.length d0, .slice B1 (eraR notLost h).1.ks.length d1, .slice B2 (eraR notLost h).1.l.length d2], .int .i64 (eraR notLost h).2]) ∧ HNew w.heap.size w' B0 B1 B2 (eraR notLost h).1) ∧ Only [] w w' := by
 have O1 : Only [] w ((w.alloc (.cells #[.slice A0 n0 c0, .slice A1 n1 c1, .slice A2 n2 c2] 25)).alloc (.cells zeroH 25)) := ((Only.refl [] w).alloc _).alloc _;have HF := Hd (keeping_any 46 notLost (.inl ⟨rfl, rfl⟩) A0 A1 A2 n0 n1 n2 c0 c1 c2 B h _ (hg.same O1) (hnone_of hg));have HO1 := Hd O1;have HR1 := Hd (Blk.made (w.alloc (.cells #[.slice A0 n0 c0, .slice A1 n1 c1, .slice A2 n2 c2] 25)) 25 zeroH);unfold hval at HF ⊢;unfold zeroH at HF HO1 HR1;simp only [World.size_alloc] at HF HR1;generalize eraR notLost h = R at *;obtain ⟨G, er⟩ := R;dsimp only at HF ⊢;clear hg O1;go_enter Tryz.func29, Tryz.ntmps29;go_wp2_with fail
 generalize hgr : w.heap.size + 1 = gr at *;refine (HF.out).mono ?_;rintro e w2 ⟨B0, B1, B2, d0, d1, d2, ⟨rfl, HA⟩, O2⟩;have HO2 := Hd (HO1.out.trans O2);have HR2 := Hd (O2.blk HR1.out (by simp));clear O2 HF;go_wp2_with (refine wpList_store_blk rfl 25 (.tmp 2) (.tmp 6) rfl gr 25 _ #[.slice B0 G.ss.length d0, .slice B1 G.ks.length d1, .slice B2 G.l.length d2] rfl rfl HR2.out rfl (by kernel_rfl) (by kernel_rfl) ?_; intro w9 b9 o9; have HB9 := Hd b9; have HN9 := Hd o9; clear b9 o9)
 refine bodyPost_ret (results_row2 Tryz.results29 _ _ gr 25 #[.slice B0 G.ss.length d0, .slice B1 G.ks.length d1, .slice B2 G.l.length d2] _ rfl HB9.out Tryz.underlying25 rfl (by kernel_rfl)) rfl ?_;exact ⟨B0, B1, B2, d0, d1, d2, ⟨rfl, HA.step HN9.out (fun i hi => by simp at hi; omega) (by omega)⟩, HO2.out.step HN9.out (fun i hi hl => by simp at hi; omega)⟩
theorem eby_any (A0 A1 A2 : Option Addr) (n0 n1 n2 c0 c1 c2 B : Nat) (h : Hst) (y : Int) (w : World) (hg : HIn w B A0 A1 A2 n0 n1 n2 h) :
  Calls Tryz.prog 12 #[hval A0 A1 A2 n0 n1 n2 c0 c1 c2, .int .i64 y] w fun e w' => ∃ B0 B1 B2 d0 d1 d2, (e = .returned (.tuple #[.agg #[.slice B0 (byR h y).1.ss.length d0, .slice B1 (byR h y).1.ks.length d1, .slice B2 (byR h y).1.l.length d2], .int .i64 (byR h y).2]) ∧ HNew w.heap.size w' B0 B1 B2 (byR h y).1) ∧ Only [] w w' := by
 have O1 : Only [] w ((w.alloc (.cells #[.slice A0 n0 c0, .slice A1 n1 c1, .slice A2 n2 c2] 25)).alloc (.cells zeroH 25)) := ((Only.refl [] w).alloc _).alloc _;have HF := Hd (hmay_any A0 A1 A2 n0 n1 n2 c0 c1 c2 B h _ (hg.same O1));have HO1 := Hd O1;have HB1 := Hd ((Blk.made w 25 #[.slice A0 n0 c0, .slice A1 n1 c1, .slice A2 n2 c2]).alloc (.cells zeroH 25));have HR1 := Hd (Blk.made (w.alloc (.cells #[.slice A0 n0 c0, .slice A1 n1 c1, .slice A2 n2 c2] 25)) 25 zeroH);have HKE := Hd (fun w' (O : Only [] w w') => keeping_any 28 anyOp (.inr ⟨rfl, rfl⟩) A0 A1 A2 n0 n1 n2 c0 c1 c2 B h w' (hg.same O) (hnone_of hg));have HOF := Hd (fun w' (O : Only [] w w') => eof_any A0 A1 A2 n0 n1 n2 c0 c1 c2 B h w' (hg.same O));unfold hval at HF HKE HOF ⊢;unfold zeroH at HF HO1 HR1 HB1;simp only [World.size_alloc] at HF HR1;unfold byR;unfold eraR at HKE HOF;clear hg O1
 cases hm : mayH h with
 | false =>
  rw [errH_not hm] at HF;rw [if_neg (by decide)];clear hm HKE HOF;go_enter Tryz.func12, Tryz.ntmps12;go_wp2_with fail
  generalize hgr : w.heap.size + 1 = gr at *;refine (HF.out).mono ?_;rintro e w2 ⟨rfl, O2⟩;have HO2 := Hd (HO1.out.trans O2);have HR2 := Hd (O2.blk HR1.out (by simp));clear O2 HF;go_wp2_with (refine wpList_store_blk rfl 25 (.tmp 4) (.tmp 11) rfl gr 25 _ #[.slice none 0 0, .slice none 0 0, .slice none 0 0] rfl rfl HR2.out rfl (by kernel_rfl) (by kernel_rfl) ?_; intro w9 b9 o9; have HB9 := Hd b9; have HN9 := Hd o9; clear b9 o9)
  refine bodyPost_ret (results_row2 Tryz.results12 _ _ gr 25 #[.slice none 0 0, .slice none 0 0, .slice none 0 0] _ rfl HB9.out Tryz.underlying25 rfl (by kernel_rfl)) rfl ?_;exact ⟨none, none, none, 0, 0, 0, ⟨rfl, fun S w' hS O => ⟨.inl rfl, .inl rfl, LRow.nil⟩⟩, HO2.out.step HN9.out (fun i hi hl => by simp at hi; omega)⟩
 | true =>
  rw [errH_yes hm] at HF;rw [if_pos rfl];rw [hm, if_pos rfl] at HKE HOF
  by_cases h1 : y = 1
  ·subst h1;rw [if_pos rfl];clear HOF;generalize keptH anyOp h = G at *;go_enter Tryz.func12, Tryz.ntmps12;go_wp2_with fail
   generalize hgr : w.heap.size + 1 = gr at *;refine (HF.out).mono ?_;rintro e w2 ⟨rfl, O2⟩;have HO2 := Hd (HO1.out.trans O2);have HR2 := Hd (O2.blk HR1.out (by simp));have HB2 := Hd (O2.blk HB1.out (by simp));have hsz2 := HO2.out.size;clear O2 HF HB1 HR1 hm;have lB := HB2.out.lt;have x0 := HB2.out.at_ 0;have x1 := HB2.out.at_ 1;have x2 := HB2.out.at_ 2;simp at x0 x1 x2;go_wp2_with fail
   refine (HKE.out w2 HO2.out).mono ?_;rintro e w3 ⟨B0, B1, B2, d0, d1, d2, ⟨rfl, HA⟩, O3⟩;have HO3 := Hd (HO2.out.trans O3);have HR3 := Hd (O3.blk HR2.out (by simp));clear O3;go_wp2_with (refine wpList_store_blk rfl 25 (.tmp 4) (.tmp 18) rfl gr 25 _ #[.slice B0 G.ss.length d0, .slice B1 G.ks.length d1, .slice B2 G.l.length d2] rfl rfl HR3.out rfl (by kernel_rfl) (by kernel_rfl) ?_; intro w9 b9 o9; have HB9 := Hd b9; have HN9 := Hd o9; clear b9 o9)
   refine bodyPost_ret (results_row2 Tryz.results12 _ _ gr 25 #[.slice B0 G.ss.length d0, .slice B1 G.ks.length d1, .slice B2 G.l.length d2] _ rfl HB9.out Tryz.underlying25 rfl (by kernel_rfl)) rfl ?_;exact ⟨B0, B1, B2, d0, d1, d2, ⟨rfl, HA.step HN9.out (fun i hi => by simp at hi; have h9 := HR2.out.lt; omega) (by omega)⟩, HO3.out.step HN9.out (fun i hi hl => by simp at hi; omega)⟩
  ·rw [if_neg h1]
   by_cases h2 : y = 2
   ·subst h2;rw [if_pos rfl];clear HKE;generalize keptH notLost h = G at *;go_enter Tryz.func12, Tryz.ntmps12;go_wp2_with fail
    generalize hgr : w.heap.size + 1 = gr at *;refine (HF.out).mono ?_;rintro e w2 ⟨rfl, O2⟩;have HO2 := Hd (HO1.out.trans O2);have HR2 := Hd (O2.blk HR1.out (by simp));have HB2 := Hd (O2.blk HB1.out (by simp));have hsz2 := HO2.out.size;clear O2 HF HB1 HR1 hm;have lB := HB2.out.lt;have x0 := HB2.out.at_ 0;have x1 := HB2.out.at_ 1;have x2 := HB2.out.at_ 2;simp at x0 x1 x2;go_wp2_with fail
    refine (HOF.out w2 HO2.out).mono ?_;rintro e w3 ⟨B0, B1, B2, d0, d1, d2, ⟨rfl, HA⟩, O3⟩;have HO3 := Hd (HO2.out.trans O3);have HR3 := Hd (O3.blk HR2.out (by simp));clear O3;go_wp2_with (refine wpList_store_blk rfl 25 (.tmp 4) (.tmp 24) rfl gr 25 _ #[.slice B0 G.ss.length d0, .slice B1 G.ks.length d1, .slice B2 G.l.length d2] rfl rfl HR3.out rfl (by kernel_rfl) (by kernel_rfl) ?_; intro w9 b9 o9; have HB9 := Hd b9; have HN9 := Hd o9; clear b9 o9)
    refine bodyPost_ret (results_row2 Tryz.results12 _ _ gr 25 #[.slice B0 G.ss.length d0, .slice B1 G.ks.length d1, .slice B2 G.l.length d2] _ rfl HB9.out Tryz.underlying25 rfl (by kernel_rfl)) rfl ?_;exact ⟨B0, B1, B2, d0, d1, d2, ⟨rfl, HA.step HN9.out (fun i hi => by simp at hi; have h9 := HR2.out.lt; omega) (by omega)⟩, HO3.out.step HN9.out (fun i hi hl => by simp at hi; omega)⟩
   ·rw [if_neg h2];have h1' : decide (y = 1) = false := by simpa using h1
    have h2' : decide (y = 2) = false := by simpa using h2
    clear HKE HOF;go_enter Tryz.func12, Tryz.ntmps12;go_wp2_with fail
    generalize hgr : w.heap.size + 1 = gr at *;refine (HF.out).mono ?_;rintro e w2 ⟨rfl, O2⟩;have HO2 := Hd (HO1.out.trans O2);have HR2 := Hd (O2.blk HR1.out (by simp));have HB2 := Hd (O2.blk HB1.out (by simp));have hsz2 := HO2.out.size;clear O2 HF HB1 HR1 hm;have lB := HB2.out.lt;have x0 := HB2.out.at_ 0;have x1 := HB2.out.at_ 1;have x2 := HB2.out.at_ 2;simp at x0 x1 x2;go_wp2_with (refine wpList_store_blk rfl 25 (.tmp 4) (.tmp 26) rfl gr 25 _ #[.slice none 0 0, .slice none 0 0, .slice none 0 0] rfl rfl HR2.out rfl (by kernel_rfl) (by kernel_rfl) ?_; intro w9 b9 o9; have HB9 := Hd b9; have HN9 := Hd o9; clear b9 o9)
    refine bodyPost_ret (results_row2 Tryz.results12 _ _ gr 25 #[.slice none 0 0, .slice none 0 0, .slice none 0 0] _ rfl HB9.out Tryz.underlying25 rfl (by kernel_rfl)) rfl ?_;exact ⟨none, none, none, 0, 0, 0, ⟨rfl, fun S w' hS O => ⟨.inl rfl, .inl rfl, LRow.nil⟩⟩, HO2.out.step HN9.out (fun i hi hl => by simp at hi; omega)⟩
end Go.Proofs.YtbiclliooidkjaaGreatDoor
namespace Go.Proofs.YtbiclliooidkjaaGreatDoor
open Go.RowKit
theorem info_int : (Tryz.prog.info? 3).map (fun i => (i.zero, i.size, i.bytes)) = some (some (.int .i64 0), 1, 8) := by kernel_rfl
open Go.Lib hiding intOf
attribute [local go_sem ↓] Go.wp_at_zero Go.wp_at_succ
theorem isinfo_any (s f : Int) (A : Option Addr) (m c : Nat) (w : World) :
  Calls Tryz.prog 51 #[.agg #[.int .i64 s, .int .i64 f, .slice A m c]] w fun e w' => e = .returned (.bool (decide (f = 3))) ∧ Only [] w w' := by
 by_cases h : f = 3
 ·subst h;go_enter Tryz.func51, Tryz.ntmps51;go_wp2
  go_ret
  exact ⟨rfl, (Only.refl _ _).alloc _⟩
 ·have h1 : (f == 3) = false := by simpa using h
  have h2 : Hid (decide (f = 3) = false) := Hd (decide_eq_false h);clear h;go_enter Tryz.func51, Tryz.ntmps51;go_wp2
  go_ret
  exact ⟨by rw [h2.out]; rfl, (Only.refl _ _).alloc _⟩
theorem whichI_any (A0 A1 A2 : Option Addr) (n0 n1 n2 c0 c1 c2 B : Nat) (h : Hst) (w : World) (hg : LRow w B A2 h.l) (hn2 : h.l.length = n2) (hM : n2 ≤ 1000) :
  Calls Tryz.prog 50 #[hval A0 A1 A2 n0 n1 n2 c0 c1 c2, .func (.func 51) #[] #[]] w fun e w' =>
   ∃ V, (e = .returned V ∧ w'.ownsRow w.heap.size 3 1 V (whichL (fun t => decide (t.f = 3)) h.l).length ((whichL (fun t => decide (t.f = 3)) h.l).map (Value.int .i64))) ∧ Only [] w w' := by
 unfold hval;have HIS := Hd (fun s f A m c w' => isinfo_any s f A m c w');obtain ⟨i0, hi, hz0, hz1, hz2⟩ := info_parts info_int;have HG := Hd hg;have HN2 := Hd hn2;have HO := Hd ((Only.refl [] w).alloc (.cells #[.slice A0 n0 c0, .slice A1 n1 c1, .slice A2 n2 c2] 25));clear hg hn2;obtain ⟨q, hq⟩ : ∃ q : Tx → Bool, q = fun t => decide (t.f = 3) := ⟨_, rfl⟩;rw [← hq];have HQ := Hd hq;clear hq;go_enter Tryz.func50, Tryz.ntmps50;go_wp2_with fail
 go_loopw [5, 11] (fun V iv wr => ∃ k : Nat, iv = .int .i64 k ∧ k ≤ n2 ∧ Hid (wr.ownsRow w.heap.size 3 1 V (whichL q (h.l.take k)).length ((whichL q (h.l.take k)).map (Value.int .i64))) ∧ Hid (Only [] w wr)) (fun _ iv _ => n2 - (intOf iv).toNat)
 case atStart => exact ⟨0, rfl, by omega, Hd ⟨rfl, .inl ⟨rfl, rfl⟩⟩, HO⟩
 case round =>
  obtain ⟨k, rfl, hk, hV, hO⟩ := hrel;have hsz := hO.out.size
  by_cases hlt : k < n2
  ·obtain ⟨x, hx⟩ : ∃ x, h.l[k]? = some x := ⟨_, List.getElem?_eq_getElem (by rw [HN2.out]; exact hlt)⟩;obtain ⟨b, off, A', cp, rfl, -, hbw, hT, hOk⟩ := HG.out.at_ hx;obtain ⟨a0, a1, a2⟩ := hT.only hO.out hbw (by simp);have HWT := Hd (which_take (p := q) hx);have hwl := which_le q (h.l.take k);rw [List.length_take] at hwl;obtain ⟨s, f, ops⟩ := x;dsimp only at a0 a1 a2;generalize hm : ops.length = m at *;have h01 : (k : Int) < (n2 : Int) := by omega
   have hk0 : (0 : Int) ≤ (k : Int) := Int.natCast_nonneg _;have hwk : IntKind.i64.wrap ((k : Int) + 1) = (k : Int) + 1 := IntWalk.i64_in _ (by omega);have hbr : b < wr.heap.size := by omega
   have HQX : Hid (q ⟨s, f, ops⟩ = decide (f = 3)) := Hd (by rw [HQ.out]);clear hT hOk hx hm;go_upto_region 5 with (fail)
   have O2 : Only [] wr (wr.alloc (.cells #[.int .i64 s, .int .i64 f, .slice A' m cp] 39)) := (Only.refl [] wr).alloc _;have bT := Blk.made wr 39 #[.int .i64 s, .int .i64 f, .slice A' m cp];have HV2 := Hd (own_only hV.out O2 (by simp));have HO2 := Hd (hO.out.trans O2);clear a0 a1 a2 O2 hV hO;generalize (wr.alloc (.cells #[.int .i64 s, .int .i64 f, .slice A' m cp] 39)) = w2 at *;generalize wr.heap.size = gt at *;have lT := bT.lt;have t0 := bT.at_ 0;have t1 := bT.at_ 1;have t2 := bT.at_ 2;simp at t0 t1 t2;clear bT;have HF := Hd (HIS.out s f A' m cp w2)
   cases hf : decide (f = 3) with
   | false =>
    rw [hf] at HF HQX;have HE : Hid (whichL q (h.l.take (k + 1)) = whichL q (h.l.take k)) := Hd (by rw [HWT.out, HQX.out]; simp);clear hf;go_wp2_with fail
    refine (HF.out).mono ?_;rintro e w3 ⟨rfl, O3⟩;have HV3 := Hd (own_only HV2.out O3 (by simp));have HO3 := Hd (HO2.out.trans O3);clear O3;go_wp2
    go_roundw
    case rel => exact ⟨k + 1, by go_num, by omega, Hd (by rw [HE.out]; exact HV3.out), HO3⟩
    case measure => simp [intOf]; omega
   | true =>
    rw [hf] at HF HQX;have HE : Hid (whichL q (h.l.take (k + 1)) = whichL q (h.l.take k) ++ [(k : Int)]) := Hd (by rw [HWT.out, HQX.out]; simp);clear hf;go_wp2_with fail
    refine (HF.out).mono ?_;rintro e w3 ⟨rfl, O3⟩;have HV3 := Hd (own_only HV2.out O3 (by simp));have HO3 := Hd (HO2.out.trans O3);clear O3;go_wp2_with (at_builtin; refine wpList_append_row _ rfl (.tmp 19) (.tmp 21) _ rfl w.heap.size 3 i0 _ 1 8 Tryz.underlying32 hi hz0 hz1 hz2 rfl (by omega) _ _ _ rfl (own_only HV3.out ((Only.refl [] _).alloc _) (by simp)) (w3.heap.size + 1) (some ⟨w3.heap.size, 0, none⟩) 1 1 [.int .i64 (k : Int)] rfl rfl (row_lit w3 3 #[.int .i64 (k : Int)]) (by simp [Value.oneCell']) (by unfold maxLen; omega) (by omega) (by have := HO3.out.size; simp; omega) ?_; intro v4 w4 hown4 hgrow hat)
    have REL : w4.ownsRow w.heap.size 3 1 v4 (whichL q (h.l.take (k + 1))).length ((whichL q (h.l.take (k + 1))).map (Value.int .i64)) ∧ Only [] w w4 := by
     refine ⟨?_, (HO3.out.alloc _).step (only_grown hgrow) (own_new HV3.out)⟩;rw [HE.out]
     simpa using hown4
    have HREL := Hd REL;clear REL hown4;go_wp2
    go_roundw
    case rel => first | exact ⟨k + 1, by go_num, by omega, Hd HREL.out.1, Hd HREL.out.2⟩ | exact ⟨_, ⟨k + 1, by go_num, by omega, Hd HREL.out.1, Hd HREL.out.2⟩, rfl⟩
    case measure => simp [intOf]; omega
  ·have hkn : k = n2 := by omega
   subst hkn;have hd2 : decide ((k : Int) < (k : Int)) = false := by simp
   have HVV : Hid (wr.ownsRow w.heap.size 3 1 u5 (whichL q h.l).length ((whichL q h.l).map (Value.int .i64))) := Hd (by
    have := hV.out
    rwa [List.take_of_length_le (by rw [HN2.out]; exact Nat.le_refl _)] at this)
   clear hV;go_wp2
   go_ret
   exact ⟨_, ⟨rfl, HVV.out⟩, hO.out⟩

end Go.Proofs.YtbiclliooidkjaaGreatDoor
namespace Go.Proofs.YtbiclliooidkjaaGreatDoor
open Go.RowKit Go.Shelf
open Go.Lib hiding intOf
attribute [local go_sem] Oper.semAt_some
theorem OpAt.belowB {B : Nat} {w w' : World} {b o : Nat} {x : Op4} (h : OpAt w b o x) (ho : Below B w w') (hb : b < B) : OpAt w' b o x :=
 ⟨(ho.cell (p := ⟨b, o, none⟩) hb).trans h.c0, (ho.cell (p := ⟨b, o + 1, none⟩) hb).trans h.c1, (ho.cell (p := ⟨b, o + 2, none⟩) hb).trans h.c2, (ho.cell (p := ⟨b, o + 3, none⟩) hb).trans h.c3⟩
theorem TxAt.belowB {B : Nat} {w w' : World} {b o : Nat} {x : TxA} (h : TxAt w b o x) (ho : Below B w w') (hb : b < B) : TxAt w' b o x :=
 ⟨(ho.cell (p := ⟨b, o, none⟩) hb).trans h.c0, (ho.cell (p := ⟨b, o + 1, none⟩) hb).trans h.c1, (ho.cell (p := ⟨b, o + 2, none⟩) hb).trans h.c2⟩
theorem blk_own {β : Type} (B : Nat) (t : TypeId) (f : β → Array Value) : Own (fun s W => Blk W B t (f s)) := fun s X Y row hs hg hrow =>
 (hg.block B hs.lt (fun e' => by obtain ⟨o, ho, hc⟩ := hrow B e'.symm; rw [show X.heap[B]? = _ from hs] at ho; cases ho; cases hc)).trans hs
end Go.Proofs.YtbiclliooidkjaaGreatDoor
namespace Go.Proofs.YtbiclliooidkjaaGreatDoor
abbrev Pl := Nat × Nat × Op4
def plC (x : Pl) : Array Value := #[.agg #[.int .i64 (x.1 : Int), .int .i64 (x.2.1 : Int)], .agg #[.bool x.2.2.wr, .int .i64 x.2.2.key, .int .i64 x.2.2.vk, .int .i64 x.2.2.vn]]
def plsT (i : Nat) (l : List Op4) : List Pl := l.zipIdx.map fun x => (i, x.2, x.1)
def plsL (l : List Tx) : List Pl := l.zipIdx.flatMap fun x => plsT x.2 x.1.ops
theorem plsT_take {i : Nat} {l : List Op4} {j : Nat} {x : Op4} (h : l[j]? = some x) : plsT i (l.take (j + 1)) = plsT i (l.take j) ++ [(i, j, x)] := by
 have hj := (List.getElem?_eq_some_iff.1 h).1;unfold plsT;rw [List.take_add_one, h, List.zipIdx_append, List.map_append, List.length_take, Nat.min_eq_left (Nat.le_of_lt hj)];simp [List.zipIdx]
theorem plsL_take {l : List Tx} {k : Nat} {t : Tx} (h : l[k]? = some t) : plsL (l.take (k + 1)) = plsL (l.take k) ++ plsT k t.ops := by
 have hk := (List.getElem?_eq_some_iff.1 h).1;unfold plsL;rw [List.take_add_one, h, List.zipIdx_append, List.flatMap_append, List.length_take, Nat.min_eq_left (Nat.le_of_lt hk)];simp [List.zipIdx]
theorem plsT_len (i : Nat) (l : List Op4) : (plsT i l).length = l.length := by simp [plsT]
theorem plsL_len : ∀ (l : List Tx), (∀ t ∈ l, t.ops.length ≤ 1000) → (plsL l).length ≤ l.length * 1000 := by
 intro l;unfold plsL;generalize 0 = s
 induction l generalizing s with
 | nil => intro _; simp
 | cons t l ih =>
  intro h;have h1 := ih (s + 1) (fun x hx => h x (List.mem_cons_of_mem _ hx));have h2 := h t List.mem_cons_self;rw [List.zipIdx_cons, List.flatMap_cons, List.length_append, plsT_len, List.length_cons]
  show t.ops.length + _ ≤ _
  omega
def placeC (l : List (Int × Int)) : List Value := l.flatMap fun e => [.int .i64 e.1, .int .i64 e.2]
theorem placeC_append (l k : List (Int × Int)) : placeC (l ++ k) = placeC l ++ placeC k := by simp [placeC]
def lostP (ps : List Pl) : List (Int × Int) := (ps.filter fun x => decide (x.2.2.vk = 2)).map fun x => ((x.1 : Int), (x.2.1 : Int))
theorem lostP_hit (pre : List Pl) {x : Pl} (h : x.2.2.vk = 2) : lostP (pre ++ [x]) = lostP pre ++ [((x.1 : Int), (x.2.1 : Int))] := by simp [lostP, h]
theorem lostP_miss (pre : List Pl) {x : Pl} (h : ¬ x.2.2.vk = 2) : lostP (pre ++ [x]) = lostP pre := by simp [lostP, h]
theorem lostP_le (pre : List Pl) : (lostP pre).length ≤ pre.length := by
 unfold lostP;rw [List.length_map];exact List.length_filter_le _ _
theorem info_place : (Tryz.prog.info? 67).map (fun i => (i.zero, i.size, i.bytes)) = some (some (.agg #[.int .i64 0, .int .i64 0]), 2, 16) := by kernel_rfl
open Go.RowKit Go.Shelf
open Go.Lib hiding intOf
attribute [local go_sem] Oper.semAt_some
set_option maxRecDepth 100000 in
theorem ops1_in (F : Fence) (n : Nat) (hf : F.fn 69) (hro : F.round = none) (hn : 1 ≤ n) (l Bn n₀ : Nat) (A2 : Option Addr) (n2 c2 : Nat) (h : Hst) (J Jx : List Pl → World → Prop) (W : World) (hW0 : n₀ ≤ W.heap.size)
  (hn2 : h.l.length = n2) (hM : n2 ≤ 1000) (hno : ∀ t ∈ h.l, t.ops.length ≤ 1000) (hJ : AbidesFrom W.heap.size J)
  (PX : Pl → Prop) (hPX : ∀ i j t o, h.l[i]? = some t → t.ops[j]? = some o → PX (i, j, o))
  (hY : ∀ pre x W1, PX x → J pre W1 → pre.length < 1000001 → YieldAt F (n - 1) Tryz.prog l (plC x) W1 fun e W' =>
   (e = .returned (.bool true) ∧ J (pre ++ [x]) W' ∧ Below n₀ W1 W') ∨ (e = .returned (.bool false) ∧ Jx (pre ++ [x]) W'))
  (hBn : W.cell? ⟨Bn, 2, none⟩ = some (.slice A2 n2 c2)) (hg : LRow W n₀ A2 h.l) (h0 : J [] W) :
  CallsIn F n Tryz.prog 69 #[.func (.yield l) #[] #[], .pointer (some ⟨Bn, 0, none⟩)] W fun e W' => (∃ v, e = .returned v) ∧
   ((∃ ys, ys = plsL h.l ∧ J ys W') ∨ (∃ pre, True ∧ Jx pre W')) := by
 refine callsIn_of_wp Tryz.func69 rfl hf ?_ hro;simp only [Tryz.ntmps69, List.size_toArray, List.length_cons, List.length_nil, Nat.reduceAdd, Nat.reduceSub, Array.replicate_succ, Array.replicate_zero, List.push_toArray, List.append_toArray, List.nil_append, List.cons_append]
 gi_wp2
 gi_loopw [10] (fun iv wr => ∃ k : Nat, iv = .int .i64 k ∧ k ≤ n2 ∧ J (plsL (h.l.take k)) wr ∧ Below n₀ W wr) (fun iv _ => n2 - (intOf iv).toNat)
 case atStart => exact ⟨0, rfl, by omega, h0, Below.refl _ _⟩
 case round =>
  obtain ⟨k, rfl, hk, hJs, hnx⟩ := hrel
  by_cases hlt : k < n2
  ·obtain ⟨x, hx⟩ : ∃ x, h.l[k]? = some x := ⟨_, List.getElem?_eq_getElem (by rw [hn2]; exact hlt)⟩;obtain ⟨b, off, A', cp, rfl, hb, -, hT, hOk⟩ := hg.at_ hx;obtain ⟨a0, a1, a2⟩ := hT.belowB hnx hb;have hm1 := hno x (List.mem_of_getElem? hx);have hpl := plsL_len (h.l.take k) (fun t ht => hno t (List.mem_of_mem_take ht));rw [List.length_take, hn2, Nat.min_eq_left hk] at hpl;have HPT := Hd (plsL_take hx);have HROW := Hd hOk.row;have HPX := Hd (fun j o ho => hPX k j x o hx ho);obtain ⟨s, f, ops⟩ := x;dsimp only at a0 a1 a2 hm1 HPT HROW;generalize hm : ops.length = m at *;have h01 : (k : Int) < (n2 : Int) := by omega
   have hk0 : (0 : Int) ≤ (k : Int) := Int.natCast_nonneg _;have hwk : IntKind.i64.wrap ((k : Int) + 1) = (k : Int) + 1 := IntWalk.i64_in _ (by omega);have hJ1 := hJ _ _ _ none hJs (World.grownBy_alloc wr (.cells #[.int .i64 s, .int .i64 f, .slice A' m cp] 39) none) (by simp);have hnx1 := hnx.alloc (by have := hnx.size; omega) (.cells #[.int .i64 s, .int .i64 f, .slice A' m cp] 39);clear hT hOk
   gi_wp2
   generalize hgt : wr.heap.size = gt
   gi_loopw [18] (fun iv wr => ∃ j : Nat, iv = .int .i64 j ∧ j ≤ m ∧ J (plsL (h.l.take k) ++ plsT k (ops.take j)) wr ∧ Below n₀ W wr) (fun iv _ => m - (intOf iv).toNat)
   case atStart => exact ⟨0, rfl, by omega, by simpa [plsT] using hJ1, hnx1⟩
   case round =>
    obtain ⟨j, rfl, hj, hJs2, hnx2⟩ := hrel;clear hJ1 hnx1 hJs hnx a0 a1 a2 hgt
    by_cases hlt2 : j < m
    ·obtain ⟨y, hy⟩ : ∃ y, ops[j]? = some y := ⟨_, List.getElem?_eq_getElem (by rw [hm]; exact hlt2)⟩;obtain ⟨b', off', rfl, hb', -, hP⟩ := row_op HROW.out hy;obtain ⟨p0, p1, p2, p3⟩ := hP.belowB hnx2 hb';have HTT := Hd (plsT_take (i := k) hy);have HPY := HPX.out j y hy;obtain ⟨yw, yk, yv, yn⟩ := y;dsimp only at p0 p1 p2 p3;have h02 : (j : Int) < (m : Int) := by omega
     have hj0 : (0 : Int) ≤ (j : Int) := Int.natCast_nonneg _;have hwj : IntKind.i64.wrap ((j : Int) + 1) = (j : Int) + 1 := IntWalk.i64_in _ (by omega);have hJ3 := hJ _ _ _ none hJs2 (World.grownBy_alloc wr (.cells #[.bool yw, .int .i64 yk, .int .i64 yv, .int .i64 yn] 50) none) (by simp);have hnx3 := hnx2.alloc (by have := hnx2.size; omega) (.cells #[.bool yw, .int .i64 yk, .int .i64 yv, .int .i64 yn] 50);have hlen : (plsL (h.l.take k) ++ plsT k (ops.take j)).length < 1000001 := by
      rw [List.length_append, plsT_len, List.length_take];omega
     have HAP : Hid (plsL (h.l.take k) ++ plsT k (ops.take (j + 1)) = (plsL (h.l.take k) ++ plsT k (ops.take j)) ++ [(k, j, ⟨yw, yk, yv, yn⟩)]) := Hd (by rw [HTT.out, List.append_assoc]);obtain ⟨fn, tmps, assign, body, hyy, hR⟩ := hY _ (k, j, ⟨yw, yk, yv, yn⟩) _ HPY hJ3 hlen;dsimp only [plC] at hyy hR;clear hP hy HPY
     gi_wp2
     refine hR.mono ?_;rintro e W3 (⟨rfl, hJ4, hk4⟩ | ⟨rfl, hJx4⟩)
     ·gi_wp2
      go_roundw
      case rel => exact ⟨j + 1, by go_num, by omega, by rw [HAP.out]; exact hJ4, hnx3.trans hk4⟩
      case measure => simp [intOf]; omega
     ·gi_wp2
      refine bodyPost_ret (results_none rfl _ _ _) rfl ?_;exact ⟨⟨_, rfl⟩, .inr ⟨_, trivial, hJx4⟩⟩
    ·obtain rfl : j = m := by omega
     have hd2 : decide ((j : Int) < (j : Int)) = false := by simp
     have hJE : J (plsL (h.l.take (k + 1))) wr := by
      rw [HPT.out]
      rwa [show ops.take j = ops from List.take_of_length_le (by rw [hm]; exact Nat.le_refl _)] at hJs2
     gi_wp2
     go_roundw
     case rel => exact ⟨k + 1, by go_num, by omega, hJE, hnx2⟩
     case measure => simp [intOf]; omega
  ·obtain rfl : k = n2 := by omega
   have hd2 : decide ((k : Int) < (k : Int)) = false := by simp
   gi_wp2
   go_end0
   exact ⟨⟨_, rfl⟩, .inl ⟨_, rfl, by rwa [List.take_of_length_le (by rw [hn2]; exact Nat.le_refl _)] at hJs⟩⟩
theorem ops_in (F : Fence) (n : Nat) (hf : F.fn 52) (hro : F.round = none) (A0 A1 A2 : Option Addr) (n0 n1 n2 c0 c1 c2 : Nat) (w : World) :
  CallsIn F n Tryz.prog 52 #[.agg #[.slice A0 n0 c0, .slice A1 n1 c1, .slice A2 n2 c2]] w fun e w' => e = .returned (.func (.func 69) #[] #[.pointer (some ⟨w.heap.size, 0, none⟩)]) ∧ w' = w.alloc (.cells #[.slice A0 n0 c0, .slice A1 n1 c1, .slice A2 n2 c2] 25) := by
 refine callsIn_of_wp Tryz.func52 rfl hf ?_ hro;simp only [Tryz.ntmps52, List.size_toArray, List.length_cons, List.length_nil, Nat.reduceAdd, Nat.reduceSub, Array.replicate_succ, Array.replicate_zero, List.push_toArray, List.append_toArray, List.nil_append, List.cons_append]
 gi_wp2
 go_ret
 exact ⟨rfl, rfl⟩
theorem ops_stops (F : Fence) (n : Nat) (hf : F.fn 69) (hro : F.round = none) (hn : 1 ≤ n) (Bn n₀ : Nat) (A2 : Option Addr) (n2 c2 : Nat) (h : Hst) (w : World) (hBn : Bn < w.heap.size) (hn₀ : n₀ ≤ w.heap.size)
  (hc : w.cell? ⟨Bn, 2, none⟩ = some (.slice A2 n2 c2)) (hg : LRow w n₀ A2 h.l) (hn2 : h.l.length = n2) (hM : n2 ≤ 1000) (hno : ∀ t ∈ h.l, t.ops.length ≤ 1000) :
  SeqStopsK F n Tryz.prog 69 #[.pointer (some ⟨Bn, 0, none⟩)] plC (Below n₀) (fun ys => ys = plsL h.l) (fun _ => True) 1000001 w := fun l J Jx W hW hJ _ hY h0 =>
 ops1_in F n hf hro hn l Bn n₀ A2 n2 c2 h J Jx W (Nat.le_trans hn₀ hW.size) hn2 hM hno hJ (fun _ => True) (fun _ _ _ _ _ _ => trivial) (fun pre x W1 _ => hY pre x W1) ((hW.cell (p := ⟨Bn, 2, none⟩) hBn).trans hc) (hg.only (Only.of_below hW []) (fun _ h => by cases h)) h0
end Go.Proofs.YtbiclliooidkjaaGreatDoor
