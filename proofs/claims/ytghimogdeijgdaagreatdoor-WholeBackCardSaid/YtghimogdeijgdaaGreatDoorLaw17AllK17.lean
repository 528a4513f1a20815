/- Parts. -/
import Derived.Deep.Cut
import Derived.Test.YtghimogdeijgdaaGreatDoorLaw17AllK14
import Derived.Test.YtghimogdeijgdaaGreatDoorLaw17AllK10
set_option maxRecDepth 10000
set_option maxHeartbeats 16000000
set_option linter.unusedVariables false
set_option linter.unusedSimpArgs false
namespace Go.Proofs.YtghimogdeijgdaaGreatDoor
open Go.RowKit
open Go.Lib hiding intOf
attribute [local go_sem ↓] Go.wp_at_zero Go.wp_at_succ
theorem isinfo_any (s f : Int) (A : Option Addr) (m c : Nat) (w : World) :
  Calls Tryz.prog 60 #[.agg #[.int .i64 s, .int .i64 f, .slice A m c]] w fun e w' => e = .returned (.bool (decide (f = 3))) ∧ Only [] w w' := by
 by_cases h : f = 3
 ·subst h;go_enter Tryz.func60, Tryz.ntmps60;go_wp2
  go_ret
  exact ⟨rfl, (Only.refl _ _).alloc _⟩
 ·have h1 : (f == 3) = false := by simpa using h
  have h2 : Hid (decide (f = 3) = false) := Hd (decide_eq_false h);clear h;go_enter Tryz.func60, Tryz.ntmps60;go_wp2
  go_ret
  exact ⟨by rw [h2.out]; rfl, (Only.refl _ _).alloc _⟩
theorem whichI_any (A0 A1 A2 : Option Addr) (n0 n1 n2 c0 c1 c2 B : Nat) (h : Hst) (w : World) (hg : LRow w B A2 h.l) (hn2 : h.l.length = n2) (hM : n2 ≤ 1000) :
  Calls Tryz.prog 59 #[hval A0 A1 A2 n0 n1 n2 c0 c1 c2, .func (.func 60) #[] #[]] w fun e w' =>
   ∃ V, (e = .returned V ∧ w'.ownsRow w.heap.size 3 1 V (whichL (fun t => decide (t.f = 3)) h.l).length ((whichL (fun t => decide (t.f = 3)) h.l).map (Value.int .i64))) ∧ Only [] w w' := by
 unfold hval;have HIS := Hd (fun s f A m c w' => isinfo_any s f A m c w');obtain ⟨i0, hi, hz0, hz1, hz2⟩ := info_parts info_int;have HG := Hd hg;have HN2 := Hd hn2;have HO := Hd ((Only.refl [] w).alloc (.cells #[.slice A0 n0 c0, .slice A1 n1 c1, .slice A2 n2 c2] 25));clear hg hn2;obtain ⟨q, hq⟩ : ∃ q : Tx → Bool, q = fun t => decide (t.f = 3) := ⟨_, rfl⟩;rw [← hq];have HQ := Hd hq;clear hq;go_enter Tryz.func59, Tryz.ntmps59;go_wp2_with fail
 go_loopw [5, 11] (fun V iv wr => ∃ k : Nat, iv = .int .i64 k ∧ k ≤ n2 ∧ Hid (wr.ownsRow w.heap.size 3 1 V (whichL q (h.l.take k)).length ((whichL q (h.l.take k)).map (Value.int .i64))) ∧ Hid (Only [] w wr)) (fun _ iv _ => n2 - (intOf iv).toNat)
 case atStart => exact ⟨0, rfl, by omega, Hd ⟨rfl, .inl ⟨rfl, rfl⟩⟩, HO⟩
 case round =>
  obtain ⟨k, rfl, hk, hV, hO⟩ := hrel;have hsz := hO.out.size
  by_cases hlt : k < n2
  ·obtain ⟨x, hx⟩ : ∃ x, h.l[k]? = some x := ⟨_, List.getElem?_eq_getElem (by rw [HN2.out]; exact hlt)⟩;obtain ⟨b, off, A', cp, rfl, -, hbw, hT, hOk⟩ := HG.out.at_ hx;obtain ⟨a0, a1, a2⟩ := hT.only hO.out hbw (by simp);have HWT := Hd (which_take (p := q) hx);have hwl := which_le q (h.l.take k);rw [List.length_take] at hwl;obtain ⟨s, f, ops⟩ := x;dsimp only at a0 a1 a2;generalize hm : ops.length = m at *;have h01 : (k : Int) < (n2 : Int) := by omega
   have hk0 : (0 : Int) ≤ (k : Int) := Int.natCast_nonneg _;have hwk : IntKind.i64.wrap ((k : Int) + 1) = (k : Int) + 1 := IntWalk.i64_in _ (by omega);have hbr : b < wr.heap.size := by omega
   have HQX : Hid (q ⟨s, f, ops⟩ = decide (f = 3)) := Hd (by rw [HQ.out]);clear hT hOk hx hm;go_upto_region 5 with (fail)
   have O2 : Only [] wr (wr.alloc (.cells #[.int .i64 s, .int .i64 f, .slice A' m cp] 48)) := (Only.refl [] wr).alloc _;have bT := Blk.made wr 48 #[.int .i64 s, .int .i64 f, .slice A' m cp];have HV2 := Hd (own_only hV.out O2 (by simp));have HO2 := Hd (hO.out.trans O2);clear a0 a1 a2 O2 hV hO;generalize (wr.alloc (.cells #[.int .i64 s, .int .i64 f, .slice A' m cp] 48)) = w2 at *;generalize wr.heap.size = gt at *;have lT := bT.lt;have t0 := bT.at_ 0;have t1 := bT.at_ 1;have t2 := bT.at_ 2;simp at t0 t1 t2;clear bT;have HF := Hd (HIS.out s f A' m cp w2)
   cases hf : decide (f = 3) with
   | false =>
    rw [hf] at HF HQX;have HE : Hid (whichL q (h.l.take (k + 1)) = whichL q (h.l.take k)) := Hd (by rw [HWT.out, HQX.out]; simp);clear hf;go_wp2_with fail
    refine (HF.out).mono ?_;rintro e w3 ⟨rfl, O3⟩;have HV3 := Hd (own_only HV2.out O3 (by simp));have HO3 := Hd (HO2.out.trans O3);clear O3;go_wp2
    go_roundw
    case rel => exact ⟨k + 1, by go_num, by omega, Hd (by rw [HE.out]; exact HV3.out), HO3⟩
    case measure => simp [intOf]; omega
   | true =>
    rw [hf] at HF HQX;have HE : Hid (whichL q (h.l.take (k + 1)) = whichL q (h.l.take k) ++ [(k : Int)]) := Hd (by rw [HWT.out, HQX.out]; simp);clear hf;go_wp2_with fail
    refine (HF.out).mono ?_;rintro e w3 ⟨rfl, O3⟩;have HV3 := Hd (own_only HV2.out O3 (by simp));have HO3 := Hd (HO2.out.trans O3);clear O3;go_wp2_with (at_builtin; refine wpList_append_row _ rfl (.tmp 19) (.tmp 21) _ rfl w.heap.size 3 i0 _ 1 8 Tryz.underlying41 hi hz0 hz1 hz2 rfl (by omega) _ _ _ rfl (own_only HV3.out ((Only.refl [] _).alloc _) (by simp)) (w3.heap.size + 1) (some ⟨w3.heap.size, 0, none⟩) 1 1 [.int .i64 (k : Int)] rfl rfl (row_lit w3 3 #[.int .i64 (k : Int)]) (by simp [Value.oneCell']) (by unfold maxLen; omega) (by omega) (by have := HO3.out.size; simp; omega) ?_; intro v4 w4 hown4 hgrow hat)
    have REL : w4.ownsRow w.heap.size 3 1 v4 (whichL q (h.l.take (k + 1))).length ((whichL q (h.l.take (k + 1))).map (Value.int .i64)) ∧ Only [] w w4 := by
     refine ⟨?_, (HO3.out.alloc _).step (only_grown hgrow) (own_new HV3.out)⟩;rw [HE.out]
     simpa using hown4
    have HREL := Hd REL;clear REL hown4;go_wp2
    go_roundw
    case rel => first | exact ⟨k + 1, by go_num, by omega, Hd HREL.out.1, Hd HREL.out.2⟩ | exact ⟨_, ⟨k + 1, by go_num, by omega, Hd HREL.out.1, Hd HREL.out.2⟩, rfl⟩
    case measure => simp [intOf]; omega
  ·have hkn : k = n2 := by omega
   subst hkn;have hd2 : decide ((k : Int) < (k : Int)) = false := by simp
   have HVV : Hid (wr.ownsRow w.heap.size 3 1 u5 (whichL q h.l).length ((whichL q h.l).map (Value.int .i64))) := Hd (by
    have := hV.out
    rwa [List.take_of_length_le (by rw [HN2.out]; exact Nat.le_refl _)] at this)
   clear hV;go_wp2
   go_ret
   exact ⟨_, ⟨rfl, HVV.out⟩, hO.out⟩

end Go.Proofs.YtghimogdeijgdaaGreatDoor
namespace Go.Proofs.YtghimogdeijgdaaGreatDoor
open Go.RowKit Go.Shelf
open Go.Lib hiding intOf
attribute [local go_sem] Oper.semAt_some
theorem cell_two_new (w : World) (x y : Value) (t : TypeId) : ∀ j u, [x, y][j]? = some u → (w.alloc (.cells #[x, y] t)).cell? ((⟨w.heap.size, 0, none⟩ : Addr).add j) = some u := by
 intro j u hj;have e : (⟨w.heap.size, 0, none⟩ : Addr).add j = ⟨w.heap.size, j, none⟩ := by
  unfold Addr.add
  split
  ·rename_i h; subst h; rfl
  ·simp
 rw [e, (Blk.made w t #[x, y]).at_ j]
 simpa using hj
set_option maxRecDepth 100000 in
theorem lost_in (F : Fence) (n : Nat) (hf0 : F.fn 42) (hf1 : F.fn 61) (hf2 : F.fn 75) (hro : F.round = none) (hn : 4 ≤ n) (A0 A1 A2 : Option Addr) (n0 n1 n2 c0 c1 c2 : Nat) (h : Hst) (w : World)
  (hg : LRow w w.heap.size A2 h.l) (hn2 : h.l.length = n2) (hM : n2 ≤ 1000) (hno : ∀ t ∈ h.l, t.ops.length ≤ 1000) :
  CallsIn F n Tryz.prog 42 #[.agg #[.slice A0 n0 c0, .slice A1 n1 c1, .slice A2 n2 c2]] w fun e W' => ∃ v, e = .returned v ∧ W'.ownsRow w.heap.size 75 2 v (lostP (plsL h.l)).length (placeC (lostP (plsL h.l))) ∧ Below w.heap.size w W' := by
 have h1 : 1 ≤ n := by omega
 obtain ⟨i0, hi, hz0, hz1, hz2⟩ := info_parts info_place;refine callsIn_of_wp_marks Tryz.func42 rfl hf0 ?_ hro;simp only [Tryz.ntmps42, List.size_toArray, List.length_cons, List.length_nil, Nat.reduceAdd, Nat.reduceSub, Array.replicate_succ, Array.replicate_zero, List.push_toArray, List.append_toArray, List.nil_append, List.cons_append]
 gi_wp2_with (gi_at_call 61; refine (ops_in F (n - 1) hf1 hro _ _ _ _ _ _ _ _ _ _).mono ?_; rintro e w' ⟨rfl, rfl⟩)
 have bL := (Boxed.new (w.alloc (.cells #[.slice A0 n0 c0, .slice A1 n1 c1, .slice A2 n2 c2] 25)) 61 (.slice none 0 0)).alloc (.cells #[.slice A0 n0 c0, .slice A1 n1 c1, .slice A2 n2 c2] 25);have bN := Blk.made ((w.alloc (.cells #[.slice A0 n0 c0, .slice A1 n1 c1, .slice A2 n2 c2] 25)).alloc (.cells #[.slice none 0 0] 61)) 25 #[.slice A0 n0 c0, .slice A1 n1 c1, .slice A2 n2 c2];simp only [World.size_alloc] at bL bN;have hB0 : Below w.heap.size w (((w.alloc (.cells #[.slice A0 n0 c0, .slice A1 n1 c1, .slice A2 n2 c2] 25)).alloc (.cells #[.slice none 0 0] 61)).alloc (.cells #[.slice A0 n0 c0, .slice A1 n1 c1, .slice A2 n2 c2] 25)) := (((Below.refl _ w).alloc (Nat.le_refl _) _).alloc (by simp) _).alloc (by simp; omega) _;have hsz : (((w.alloc (.cells #[.slice A0 n0 c0, .slice A1 n1 c1, .slice A2 n2 c2] 25)).alloc (.cells #[.slice none 0 0] 61)).alloc (.cells #[.slice A0 n0 c0, .slice A1 n1 c1, .slice A2 n2 c2] 25)).heap.size = w.heap.size + 3 := by simp
 obtain ⟨W0, hW0⟩ : ∃ W0, (((w.alloc (.cells #[.slice A0 n0 c0, .slice A1 n1 c1, .slice A2 n2 c2] 25)).alloc (.cells #[.slice none 0 0] 61)).alloc (.cells #[.slice A0 n0 c0, .slice A1 n1 c1, .slice A2 n2 c2] 25)) = W0 := ⟨_, rfl⟩;rw [hW0] at bL bN hB0 hsz ⊢;clear hW0;have hg0 : LRow W0 w.heap.size A2 h.l := hg.only (Only.of_below hB0 []) (fun _ h => by cases h);refine wpIn_rangeFunc_ownH hro h1 (gf := 75) (lb := #[.pointer (some ⟨w.heap.size + 1 + 1, 0, none⟩)]) rfl hf2 (enters_of Tryz.func75 (by kernel_rfl) rfl)
  (ops_stops F (n - 1) hf2 hro (by omega) (w.heap.size + 1 + 1) w.heap.size A2 n2 c2 h W0 (by omega) (by omega) (bN.at_ 2) hg0 hn2 hM hno) belowK_t (belowK_b (by omega)) (Below.refl _ _) (fun _ => rfl)
  (fun pre W => (∃ v, Boxed W (w.heap.size + 1) 61 v ∧ W.ownsRow w.heap.size 75 2 v (lostP pre).length (placeC (lostP pre)) ∧ True) ∧ Below w.heap.size w W)
  (fun _ _ _ => False)
  (OwnFrom.and (Own.from (holdsRow_own w.heap.size (w.heap.size + 1) 61 75 2 (fun pre => (lostP pre).length) (fun pre => placeC (lostP pre)) (fun _ _ => True)) _) (ownFrom_below (Nat.le_refl _) (by omega)))
  (fun _ _ _ _ _ hs _ _ => hs)
  ⟨⟨_, bL, World.ownsRow_nil _ _ _ _, trivial⟩, hB0⟩
  (fun x a' W => ∃ B1 B2, (Blk W B1 75 #[.int .i64 (x.1 : Int), .int .i64 (x.2.1 : Int)] ∧ Blk W B2 55 #[.bool x.2.2.wr, .int .i64 x.2.2.key, .int .i64 x.2.2.vk, .int .i64 x.2.2.vn]) ∧
   a' = { tmps := #[.agg #[.slice A0 n0 c0, .slice A1 n1 c1, .slice A2 n2 c2], .pointer (some ⟨w.heap.size, 0, none⟩), .slice none 0 0, .pointer (some ⟨w.heap.size + 1, 0, none⟩), .pointer (some ⟨B1, 0, none⟩), .pointer (some ⟨B2, 0, none⟩),
    .agg #[.slice A0 n0 c0, .slice A1 n1 c1, .slice A2 n2 c2], .func (.func 75) #[] #[.pointer (some ⟨w.heap.size + 1 + 1, 0, none⟩)], .agg #[.int .i64 (x.1 : Int), .int .i64 (x.2.1 : Int)], .agg #[.bool x.2.2.wr, .int .i64 x.2.2.key, .int .i64 x.2.2.vk, .int .i64 x.2.2.vn], undef, undef, undef, undef, undef, undef, undef, undef, undef], defers := [] })
  (fun x a' _ X Y row hs hg hr => by
   obtain ⟨B1, B2, ⟨b1, b2⟩, e⟩ := hs;exact ⟨B1, B2, ⟨blk_own B1 _ (fun (_ : Unit) => _) () X Y row b1 hg (fun r e => (hr r e).2), blk_own B2 _ (fun (_ : Unit) => _) () X Y row b2 hg (fun r e => (hr r e).2)⟩, e⟩)
  ?assign ?body ?done ?stop
 case assign =>
  rintro l pre x W K ⟨⟨v, hv, hrow, -⟩, hB1⟩ hK;unfold plC
  gi_wp2
  refine hK _ _ (((KeepsOthers.alloc _ _).trans (KeepsOthers.alloc _ _)).from _) (((Below.refl _ W).alloc hB1.size _).alloc (by have := hB1.size; simp; omega) _) ⟨⟨v, (hv.alloc _).alloc _, ?_, trivial⟩, (hB1.alloc hB1.size _).alloc (by have := hB1.size; simp; omega) _⟩
   ⟨W.heap.size, W.heap.size + 1, ⟨(Blk.made W _ _).alloc _, by have := Blk.made (W.alloc (.cells #[.int .i64 (x.1 : Int), .int .i64 (x.2.1 : Int)] 75)) 55 #[.bool x.2.2.wr, .int .i64 x.2.2.key, .int .i64 x.2.2.vk, .int .i64 x.2.2.vn]; simpa using this⟩, rfl⟩
  exact own_only hrow (((Only.refl [] W).alloc _).alloc _) (by simp)
 case body =>
  rintro l pre ⟨pi, pj, ⟨yw, yk, yv, yn⟩⟩ a' W hl ⟨r, hr⟩ ⟨⟨v, hv, hrow, -⟩, hB⟩ ⟨B1, B2, ⟨bP, bO⟩, rfl⟩ hlt;have hc := hv.cell;dsimp only at bP bO;have p0 := bP.at_ 0;have p1 := bP.at_ 1;have o2 := bO.at_ 2;have lP := bP.lt;have lO := bO.lt;simp at p0 p1 o2;have hpl := lostP_le pre
  by_cases hk : yv = 2
  ·subst hk
   gi_wp2_with (gi_at_builtin; refine wpListIn_append_own _ rfl _ _ 61 rfl w.heap.size 75 i0 (.agg #[.int .i64 0, .int .i64 0]) 2 16 Tryz.underlying61 hi hz0 hz1 hz2 rfl (by decide) _ _ _ rfl (hrow.alloc _) ⟨W.heap.size, 0, none⟩ 1 1 [.int .i64 (pi : Int), .int .i64 (pj : Int)] rfl rfl (cell_two_new _ _ _ _) (by intro u hu; simp at hu; rcases hu with rfl | rfl <;> rfl) (by unfold maxLen; omega) (by omega) (by have := hB.size; simp; omega) ?_; intro v' w1 hown' hgrow _; obtain ⟨g', cap', rfl⟩ := ownsRow_succ hown'; obtain ⟨hv1, hv2, hr2, hk2, hb2⟩ := hv.appended (by decide) hrow hB.size (by omega) hown' hgrow; have hc1 := hv1.cell; have hf1 := hv1.frozen)
   exact ⟨hk2.from _, hb2, ⟨_, hv2, by rw [lostP_hit pre (by rfl), placeC_append]; simpa [placeC] using hr2, trivial⟩, hB.trans hb2⟩
  ·have hk1 : (yv == 2) = false := by simpa using hk
   gi_wp2
   exact ⟨KeepsFrom.refl _ _, Below.refl _ _, ⟨v, hv, by rw [lostP_miss pre (by exact hk)]; exact hrow, trivial⟩, hB⟩
 case done =>
  rintro D ys W hD rfl ⟨⟨v, hv, hrow, -⟩, hB⟩ hK;have hc := hv.cell
  gi_wp2
  refine ⟨by simp, .inl ⟨_, _, rfl, run_takeDeferred hK, ?_⟩⟩;exact ⟨_, results_tmp rfl _ _ _, v, rfl, ownsRow_putObj hrow _ hK rfl, hB.trans (belowK_b (w := w) (Nat.le_refl _) W D _ _ (by omega) hK rfl rfl)⟩
 case stop =>
  rintro D c pre W _ _ h _;exact h.elim
theorem klost_any (A0 A1 A2 : Option Addr) (n0 n1 n2 c0 c1 c2 B : Nat) (h : Hst) (w : World) (hg : LRow w B A2 h.l) (hn2 : h.l.length = n2) (hM : n2 ≤ 1000) (hno : ∀ t ∈ h.l, t.ops.length ≤ 1000) :
  Calls Tryz.prog 42 #[hval A0 A1 A2 n0 n1 n2 c0 c1 c2] w fun e W' => ∃ V, (e = .returned V ∧ W'.ownsRow w.heap.size 75 2 V (lostP (plsL h.l)).length (placeC (lostP (plsL h.l)))) ∧ Only [] w W' :=
 (callsIn_wide.1 (lost_in Fence.wide 6 trivial trivial trivial rfl (by omega) A0 A1 A2 n0 n1 n2 c0 c1 c2 h w hg.up hn2 hM hno)).mono fun e W' ⟨v, he, ho, hb⟩ => ⟨v, ⟨he, ho⟩, Only.of_below hb []⟩
end Go.Proofs.YtghimogdeijgdaaGreatDoor
namespace Go.Proofs.YtghimogdeijgdaaGreatDoor
open Go.RowKit
open Go.Lib hiding intOf
attribute [local go_sem ↓] Go.wp_at_zero Go.wp_at_succ
theorem kinfos_any (A0 A1 A2 : Option Addr) (n0 n1 n2 c0 c1 c2 B : Nat) (h : Hst) (w : World) (hg : LRow w B A2 h.l) (hn2 : h.l.length = n2) (hM : n2 ≤ 1000) :
  Calls Tryz.prog 41 #[hval A0 A1 A2 n0 n1 n2 c0 c1 c2] w fun e w' =>
   ∃ A c, (e = .returned (.slice A (whichL (fun t => decide (t.f = 3)) h.l).length c) ∧ Row w' w'.heap.size A ((whichL (fun t => decide (t.f = 3)) h.l).map (Value.int .i64))) ∧ Only [] w w' := by
 have HX := Hd (fun w' (O : Only [] w w') => whichI_any A0 A1 A2 n0 n1 n2 c0 c1 c2 B h w' (hg.only O (fun _ h => by cases h)) hn2 hM);unfold hval at HX ⊢;clear hg hn2;have O1 : Only [] w (w.alloc (.cells #[.slice A0 n0 c0, .slice A1 n1 c1, .slice A2 n2 c2] 25)) := (Only.refl [] w).alloc _;have HF := Hd (HX.out _ O1);have HO1 := Hd O1;clear O1;generalize (whichL (fun t => decide (t.f = 3)) h.l) = L at *;go_enter Tryz.func41, Tryz.ntmps41;go_wp2_with fail
 refine (HF.out).mono ?_;rintro e w3 ⟨V, ⟨rfl, hV⟩, O3⟩;have HO3 := Hd (HO1.out.trans O3);obtain ⟨A, c, rfl, -, -, -, hR⟩ := own_row hV;have HR := Hd hR;clear O3 hV hR;go_wp2
 go_ret
 exact ⟨_, _, ⟨rfl, HR.out⟩, HO3.out⟩
theorem rlost_any (A0 A1 A2 : Option Addr) (n0 n1 n2 c0 c1 c2 B : Nat) (h : Hst) (w : World) (hg : LRow w B A2 h.l) (hn2 : h.l.length = n2) (hM : n2 ≤ 1000) (hno : ∀ t ∈ h.l, t.ops.length ≤ 1000) :
  Calls Tryz.prog 33 #[hval A0 A1 A2 n0 n1 n2 c0 c1 c2] w fun e w' =>
   ∃ A c, (e = .returned (.slice A (lostP (plsL h.l)).length c) ∧ Row w' w'.heap.size A (placeC (lostP (plsL h.l)))) ∧ Only [] w w' := by
 unfold hval;obtain ⟨i0, hi, hz0, hz1, hz2⟩ := info_parts info_place;have HG := Hd hg;have HN2 := Hd hn2;have HNO := Hd hno;have HO := Hd (((Only.refl [] w).alloc (.cells #[.slice A0 n0 c0, .slice A1 n1 c1, .slice A2 n2 c2] 25)).alloc (.cells #[] 75));have HB := Hd ((Blk.made w 25 #[.slice A0 n0 c0, .slice A1 n1 c1, .slice A2 n2 c2]).alloc (.cells #[] 75));have HV := Hd (World.ownsRow_lit (w.alloc (.cells #[.slice A0 n0 c0, .slice A1 n1 c1, .slice A2 n2 c2] 25)) (e := 75) (size := 2) #[] 0 (Nat.le_refl _) (by unfold maxLen; omega) rfl);rw [World.size_alloc] at HV;clear hg hn2 hno;go_enter Tryz.func33, Tryz.ntmps33;go_wp2_with fail
 go_loopw [3, 4] (fun V iv wr => ∃ k : Nat, iv = .int .i64 k ∧ k ≤ n2 ∧ Hid (wr.ownsRow (w.heap.size + 1) 75 2 V (lostP (plsL (h.l.take k))).length (placeC (lostP (plsL (h.l.take k))))) ∧ Hid (Blk wr w.heap.size 25 #[.slice A0 n0 c0, .slice A1 n1 c1, .slice A2 n2 c2]) ∧ Hid (Only [] w wr)) (fun _ iv _ => n2 - (intOf iv).toNat)
 case atStart => exact ⟨0, rfl, by omega, HV, HB, HO⟩
 case round =>
  obtain ⟨k, rfl, hk, hV, hB, hO⟩ := hrel;clear HV HB HO
  by_cases hlt : k < n2
  ·obtain ⟨x, hx⟩ : ∃ x, h.l[k]? = some x := ⟨_, List.getElem?_eq_getElem (by rw [HN2.out]; exact hlt)⟩;obtain ⟨b, off, A', cp, rfl, -, hbw, hT, hOk⟩ := HG.out.at_ hx;have HT := Hd hT;have HPT := Hd (plsL_take hx);have hpl := plsL_len (h.l.take k) (fun t ht => HNO.out t (List.mem_of_mem_take ht));rw [List.length_take] at hpl;have hm1 := HNO.out x (List.mem_of_getElem? hx);have HROW := Hd hOk.row;obtain ⟨s, f, ops⟩ := x;dsimp only at HT HPT hm1 HROW;generalize hm : ops.length = m at *;have HMM := Hd hm;have h01 : (k : Int) < (n2 : Int) := by omega
   have hk0 : (0 : Int) ≤ (k : Int) := Int.natCast_nonneg _;have hwk : IntKind.i64.wrap ((k : Int) + 1) = (k : Int) + 1 := IntWalk.i64_in _ (by omega);have hV' : Hid (wr.ownsRow (w.heap.size + 1) 75 2 u3 (lostP (plsL (h.l.take k) ++ plsT k (ops.take 0))).length (placeC (lostP (plsL (h.l.take k) ++ plsT k (ops.take 0))))) := by simpa [plsT] using hV
   have hB' := hB;have hO' := hO;clear hT hOk hx hm hV;have lB := hB'.out.lt;have b2 := hB'.out.at_ 2;simp at b2;go_wp2_with fail
   clear lB b2 hB hO
   go_loopw [3, 5] (fun V iv wr => ∃ j : Nat, iv = .int .i64 j ∧ j ≤ m ∧ Hid (wr.ownsRow (w.heap.size + 1) 75 2 V (lostP (plsL (h.l.take k) ++ plsT k (ops.take j))).length (placeC (lostP (plsL (h.l.take k) ++ plsT k (ops.take j))))) ∧ Hid (Blk wr w.heap.size 25 #[.slice A0 n0 c0, .slice A1 n1 c1, .slice (some ⟨b, off, none⟩) n2 c2]) ∧ Hid (Only [] w wr)) (fun _ iv _ => m - (intOf iv).toNat)
   case atStart => exact ⟨0, rfl, by omega, hV', hB', hO'⟩
   case round =>
    obtain ⟨j, rfl, hj, hV, hB, hO⟩ := hrel;clear hV' hB' hO';have hsz := hO.out.size;have lB := hB.out.lt;have b2 := hB.out.at_ 2;simp at b2;obtain ⟨a0, a1, a2⟩ := HT.out.only hO.out hbw (by simp);dsimp only at a2;rw [HMM.out] at a2;have hbr : b < wr.heap.size := by omega
    clear a0 a1
    by_cases hlt2 : j < m
    ·obtain ⟨y, hy⟩ : ∃ y, ops[j]? = some y := ⟨_, List.getElem?_eq_getElem (by rw [HMM.out]; exact hlt2)⟩;obtain ⟨b', off', rfl, -, hbw', hP⟩ := row_op HROW.out hy;obtain ⟨p0, p1, p2, p3⟩ := hP.only hO.out hbw' (by simp);have HTT := Hd (plsT_take (i := k) hy);have hll := lostP_le (plsL (h.l.take k) ++ plsT k (ops.take j));rw [List.length_append, plsT_len, List.length_take] at hll;obtain ⟨yw, yk, yv, yn⟩ := y;dsimp only at p0 p1 p2 p3;have h02 : (j : Int) < (m : Int) := by omega
     have hj0 : (0 : Int) ≤ (j : Int) := Int.natCast_nonneg _;have hwj : IntKind.i64.wrap ((j : Int) + 1) = (j : Int) + 1 := IntWalk.i64_in _ (by omega);have hbr' : b' < wr.heap.size := by omega
     clear hP hy p0 p1 p3
     by_cases hv2 : yv = 2
     ·have HE : Hid (lostP (plsL (h.l.take k) ++ plsT k (ops.take (j + 1))) = lostP (plsL (h.l.take k) ++ plsT k (ops.take j)) ++ [((k : Int), (j : Int))]) := Hd (by
       rw [HTT.out, ← List.append_assoc, lostP_hit _ (by exact hv2)])
      subst hv2;go_wp2_with (at_builtin; refine wpList_append_row _ rfl (.tmp 37) (.tmp 41) _ rfl (w.heap.size + 1) 75 i0 _ 2 16 Tryz.underlying61 hi hz0 hz1 hz2 rfl (by omega) _ _ _ rfl (own_only hV.out ((Only.refl [] _).alloc _) (by simp)) (wr.heap.size + 1) (some ⟨wr.heap.size, 0, none⟩) 1 1 [.int .i64 (k : Int), .int .i64 (j : Int)] rfl rfl (row_lit wr 75 #[.int .i64 (k : Int), .int .i64 (j : Int)]) (by intro u hu; simp at hu; rcases hu with rfl | rfl <;> rfl) (by unfold maxLen; omega) (by omega) (by simp; omega) ?_; intro v4 w4 hown4 hgrow hat)
      have hb1 := hB.out.alloc (.cells #[.int .i64 (k : Int), .int .i64 (j : Int)] 75);have hv1 := own_only hV.out ((Only.refl [] wr).alloc (.cells #[.int .i64 (k : Int), .int .i64 (j : Int)] 75)) (by simp);have REL : w4.ownsRow (w.heap.size + 1) 75 2 v4 (lostP (plsL (h.l.take k) ++ plsT k (ops.take (j + 1)))).length (placeC (lostP (plsL (h.l.take k) ++ plsT k (ops.take (j + 1))))) ∧ Blk w4 w.heap.size 25 #[.slice A0 n0 c0, .slice A1 n1 c1, .slice (some ⟨b, off, none⟩) n2 c2] ∧ Only [] w w4 := by
       refine ⟨?_, (only_grown hgrow).blk hb1 (own_apart hv1 hb1 (by decide)), (hO.out.alloc _).step (only_grown hgrow) (fun i hi hl => own_new hV.out (S := []) i hi (by omega))⟩;rw [HE.out, placeC_append]
       simpa [placeC] using hown4
      have HREL := Hd REL;clear REL hown4 lB b2 a2 p2 hb1 hv1;go_wp2
      go_roundw
      case rel => first | exact ⟨j + 1, by go_num, by omega, Hd HREL.out.1, Hd HREL.out.2.1, Hd HREL.out.2.2⟩ | exact ⟨_, ⟨j + 1, by go_num, by omega, Hd HREL.out.1, Hd HREL.out.2.1, Hd HREL.out.2.2⟩, rfl⟩
      case measure => simp [intOf]; omega
     ·have HE : Hid (lostP (plsL (h.l.take k) ++ plsT k (ops.take (j + 1))) = lostP (plsL (h.l.take k) ++ plsT k (ops.take j))) := Hd (by
       rw [HTT.out, ← List.append_assoc, lostP_miss _ (by exact hv2)])
      have hf1 : (yv == 2) = false := by simpa using hv2
      clear hv2;go_wp2
      go_roundw
      case rel => exact ⟨j + 1, by go_num, by omega, Hd (by rw [HE.out]; exact hV.out), hB, hO⟩
      case measure => simp [intOf]; omega
    ·have hjm : j = m := by omega
     subst hjm;have hd3 : decide ((j : Int) < (j : Int)) = false := by simp
     have hVE : Hid (wr.ownsRow (w.heap.size + 1) 75 2 u3 (lostP (plsL (h.l.take (k + 1)))).length (placeC (lostP (plsL (h.l.take (k + 1)))))) := Hd (by
      have := hV.out;rw [show ops.take j = ops from List.take_of_length_le (by rw [HMM.out]; exact Nat.le_refl _)] at this;rw [HPT.out];exact this)
     clear hV;go_wp2
     go_roundw
     case rel => exact ⟨k + 1, by go_num, by omega, hVE, hB, hO⟩
     case measure => simp [intOf]; omega
  ·have hkn : k = n2 := by omega
   subst hkn;have lB := hB.out.lt;have b2 := hB.out.at_ 2;simp at b2;have hd2 : decide ((k : Int) < (k : Int)) = false := by simp
   have hVV := hV.out;rw [List.take_of_length_le (by rw [HN2.out]; exact Nat.le_refl _)] at hVV;obtain ⟨A, c, rfl, -, -, -, hR⟩ := own_row hVV;have HR := Hd hR;clear hV hVV hR;go_wp2
   go_ret
   first | exact ⟨⟨_, ⟨_, rfl⟩, HR.out⟩, hO.out⟩ | exact ⟨_, _, ⟨rfl, HR.out⟩, hO.out⟩
theorem rinfos_any (A0 A1 A2 : Option Addr) (n0 n1 n2 c0 c1 c2 B : Nat) (h : Hst) (w : World) (hg : LRow w B A2 h.l) (hn2 : h.l.length = n2) (hM : n2 ≤ 1000) :
  Calls Tryz.prog 32 #[hval A0 A1 A2 n0 n1 n2 c0 c1 c2] w fun e w' =>
   ∃ A c, (e = .returned (.slice A (whichL (fun t => decide (t.f = 3)) h.l).length c) ∧ Row w' w'.heap.size A ((whichL (fun t => decide (t.f = 3)) h.l).map (Value.int .i64))) ∧ Only [] w w' := by
 unfold hval;obtain ⟨i0, hi, hz0, hz1, hz2⟩ := info_parts info_int;have HG := Hd hg;have HN2 := Hd hn2;have HO := Hd (((Only.refl [] w).alloc (.cells #[.slice A0 n0 c0, .slice A1 n1 c1, .slice A2 n2 c2] 25)).alloc (.cells #[] 3));have HB := Hd ((Blk.made w 25 #[.slice A0 n0 c0, .slice A1 n1 c1, .slice A2 n2 c2]).alloc (.cells #[] 3));have HV := Hd (World.ownsRow_lit (w.alloc (.cells #[.slice A0 n0 c0, .slice A1 n1 c1, .slice A2 n2 c2] 25)) (e := 3) (size := 1) #[] 0 (Nat.le_refl _) (by unfold maxLen; omega) rfl);rw [World.size_alloc] at HV;clear hg hn2;obtain ⟨q, hq⟩ : ∃ q : Tx → Bool, q = fun t => decide (t.f = 3) := ⟨_, rfl⟩;rw [← hq];have HQ := Hd hq;clear hq;go_enter Tryz.func32, Tryz.ntmps32;go_wp2_with fail
 go_loopw [3, 4] (fun V iv wr => ∃ k : Nat, iv = .int .i64 k ∧ k ≤ n2 ∧ Hid (wr.ownsRow (w.heap.size + 1) 3 1 V (whichL q (h.l.take k)).length ((whichL q (h.l.take k)).map (Value.int .i64))) ∧ Hid (Blk wr w.heap.size 25 #[.slice A0 n0 c0, .slice A1 n1 c1, .slice A2 n2 c2]) ∧ Hid (Only [] w wr)) (fun _ iv _ => n2 - (intOf iv).toNat)
 case atStart => exact ⟨0, rfl, by omega, HV, HB, HO⟩
 case round =>
  obtain ⟨k, rfl, hk, hV, hB, hO⟩ := hrel;clear HV HB HO;have hsz := hO.out.size;have lB := hB.out.lt;have b2 := hB.out.at_ 2;simp at b2
  by_cases hlt : k < n2
  ·obtain ⟨x, hx⟩ : ∃ x, h.l[k]? = some x := ⟨_, List.getElem?_eq_getElem (by rw [HN2.out]; exact hlt)⟩;obtain ⟨b, off, A', cp, rfl, -, hbw, hT, hOk⟩ := HG.out.at_ hx;obtain ⟨a0, a1, a2⟩ := hT.only hO.out hbw (by simp);have HWT := Hd (which_take (p := q) hx);have hwl := which_le q (h.l.take k);rw [List.length_take] at hwl;obtain ⟨s, f, ops⟩ := x;dsimp only at a0 a1 a2;have h01 : (k : Int) < (n2 : Int) := by omega
   have hk0 : (0 : Int) ≤ (k : Int) := Int.natCast_nonneg _;have hwk : IntKind.i64.wrap ((k : Int) + 1) = (k : Int) + 1 := IntWalk.i64_in _ (by omega);have hbr : b < wr.heap.size := by omega
   have HQX : Hid (q ⟨s, f, ops⟩ = decide (f = 3)) := Hd (by rw [HQ.out]);clear hT hOk hx a2
   by_cases hf : f = 3
   ·have HE : Hid (whichL q (h.l.take (k + 1)) = whichL q (h.l.take k) ++ [(k : Int)]) := Hd (by rw [HWT.out, HQX.out, decide_eq_true hf]; simp);subst hf;go_wp2_with (at_builtin; refine wpList_append_row _ rfl (.tmp 20) (.tmp 22) _ rfl (w.heap.size + 1) 3 i0 _ 1 8 Tryz.underlying41 hi hz0 hz1 hz2 rfl (by omega) _ _ _ rfl (own_only hV.out ((Only.refl [] _).alloc _) (by simp)) (wr.heap.size + 1) (some ⟨wr.heap.size, 0, none⟩) 1 1 [.int .i64 (k : Int)] rfl rfl (row_lit wr 3 #[.int .i64 (k : Int)]) (by simp [Value.oneCell']) (by unfold maxLen; omega) (by omega) (by simp; omega) ?_; intro v4 w4 hown4 hgrow hat)
    have hb1 := hB.out.alloc (.cells #[.int .i64 (k : Int)] 3);have hv1 := own_only hV.out ((Only.refl [] wr).alloc (.cells #[.int .i64 (k : Int)] 3)) (by simp);have REL : w4.ownsRow (w.heap.size + 1) 3 1 v4 (whichL q (h.l.take (k + 1))).length ((whichL q (h.l.take (k + 1))).map (Value.int .i64)) ∧ Blk w4 w.heap.size 25 #[.slice A0 n0 c0, .slice A1 n1 c1, .slice (some ⟨b, off, none⟩) n2 c2] ∧ Only [] w w4 := by
     refine ⟨?_, (only_grown hgrow).blk hb1 (own_apart hv1 hb1 (by decide)), (hO.out.alloc _).step (only_grown hgrow) (fun i hi hl => own_new hV.out (S := []) i hi (by omega))⟩;rw [HE.out]
     simpa using hown4
    have HREL := Hd REL;clear REL hown4 lB b2 hb1 hv1;go_wp2
    go_roundw
    case rel => first | exact ⟨k + 1, by go_num, by omega, Hd HREL.out.1, Hd HREL.out.2.1, Hd HREL.out.2.2⟩ | exact ⟨_, ⟨k + 1, by go_num, by omega, Hd HREL.out.1, Hd HREL.out.2.1, Hd HREL.out.2.2⟩, rfl⟩
    case measure => simp [intOf]; omega
   ·have HE : Hid (whichL q (h.l.take (k + 1)) = whichL q (h.l.take k)) := Hd (by rw [HWT.out, HQX.out, decide_eq_false hf]; simp);have hf1 : (f == 3) = false := by simpa using hf
    clear hf;go_wp2
    go_roundw
    case rel => exact ⟨k + 1, by go_num, by omega, Hd (by rw [HE.out]; exact hV.out), hB, hO⟩
    case measure => simp [intOf]; omega
  ·have hkn : k = n2 := by omega
   subst hkn;have hd2 : decide ((k : Int) < (k : Int)) = false := by simp
   have hVV := hV.out;rw [List.take_of_length_le (by rw [HN2.out]; exact Nat.le_refl _)] at hVV;obtain ⟨A, c, rfl, -, -, -, hR⟩ := own_row hVV;have HR := Hd hR;clear hV hVV hR;go_wp2
   go_ret
   first | exact ⟨⟨_, ⟨_, rfl⟩, HR.out⟩, hO.out⟩ | exact ⟨_, _, ⟨rfl, HR.out⟩, hO.out⟩
end Go.Proofs.YtghimogdeijgdaaGreatDoor
