/- Parts. -/
import Derived.Test.YtghimogdeijgdaaGreatDoorLaw17AllK43
import Derived.Test.YtghimogdeijgdaaGreatDoorLaw17AllK45
set_option maxRecDepth 10000
set_option maxHeartbeats 16000000
set_option linter.unusedVariables false
set_option linter.unusedSimpArgs false
namespace Go.Proofs.YtghimogdeijgdaaGreatDoor
open Go.RowKit
open Go.Lib hiding intOf
attribute [local go_sem ↓] Go.wp_at_zero Go.wp_at_succ
def comI (h : Hst) : List Int := if wholeB h = true then whichL (fun t => decide (t.f = 1)) h.l else []
theorem com17_any (A0 A1 A2 : Option Addr) (n0 n1 n2 c0 c1 c2 B : Nat) (h : Hst) (w : World) (hg : HIn w B A0 A1 A2 n0 n1 n2 h) :
  Calls Tryz.prog 19 #[hval A0 A1 A2 n0 n1 n2 c0 c1 c2] w fun e w' =>
   ∃ V, (e = .returned V ∧ w'.ownsRow w.heap.size 3 1 V (comI h).length ((comI h).map (Value.int .i64))) ∧ Only [] w w' := by
 have HIS := Hd (fun w' (O : Only [] w w') => wis_any A0 A1 A2 n0 n1 n2 c0 c1 c2 B h w' (hg.same O));obtain ⟨i0, hi, hz0, hz1, hz2⟩ := info_parts info_int;have HG := Hd hg.at_.r2;have HN2 := Hd hg.n2;have hM : n2 ≤ 1000 := by have := hg.sm.nl; rw [hg.n2] at this; exact this
 unfold comI;unfold hval at *;have HO1 := Hd ((Only.refl [] w).alloc (.cells #[.slice A0 n0 c0, .slice A1 n1 c1, .slice A2 n2 c2] 25));have HB1 := Hd (Blk.made w 25 #[.slice A0 n0 c0, .slice A1 n1 c1, .slice A2 n2 c2]);clear hg
 cases hwh : wholeB h with
 | false =>
  rw [hwh] at HIS;rw [if_neg (by decide)];clear HB1 HG HN2 hwh;go_enter Tryz.func19, Tryz.ntmps19;go_wp2_with fail
  refine (HIS.out _ HO1.out).mono ?_;rintro e w2 ⟨rfl, O2⟩;have HO2 := Hd (HO1.out.trans O2);clear O2;go_wp2
  go_ret
  exact ⟨_, ⟨rfl, World.ownsRow_nil _ _ _ _⟩, HO2.out⟩
 | true =>
 rw [hwh] at HIS;rw [if_pos rfl];clear hwh;obtain ⟨q, hq⟩ : ∃ q : Tx → Bool, q = fun t => decide (t.f = 1) := ⟨_, rfl⟩;rw [← hq];have HQ := Hd hq;clear hq;go_enter Tryz.func19, Tryz.ntmps19;go_wp2_with fail
 refine (HIS.out _ HO1.out).mono ?_;rintro e wi ⟨rfl, O2⟩;have HO := Hd (HO1.out.trans O2);have hb := O2.blk HB1.out (by simp);have lb := hb.lt;have y2 := hb.at_ 2;simp at y2;clear O2 hb HO1 HB1 HIS;go_wp2_with fail
 go_loopw [3, 12] (fun V iv wr => ∃ k : Nat, iv = .int .i64 k ∧ k ≤ n2 ∧ Hid (wr.ownsRow w.heap.size 3 1 V (whichL q (h.l.take k)).length ((whichL q (h.l.take k)).map (Value.int .i64))) ∧ Hid (Only [] w wr)) (fun _ iv _ => n2 - (intOf iv).toNat)
 case atStart => exact ⟨0, rfl, by omega, Hd ⟨rfl, .inl ⟨rfl, rfl⟩⟩, HO⟩
 case round =>
  obtain ⟨k, rfl, hk, hV, hO⟩ := hrel;clear lb y2 HO;have hsz := hO.out.size
  by_cases hlt : k < n2
  ·obtain ⟨x, hx⟩ : ∃ x, h.l[k]? = some x := ⟨_, List.getElem?_eq_getElem (by rw [HN2.out]; exact hlt)⟩;obtain ⟨b, off, A', cp, rfl, -, hbw, hT, hOk⟩ := HG.out.at_ hx;obtain ⟨a0, a1, a2⟩ := hT.only hO.out hbw (by simp);have HWT := Hd (which_take (p := q) hx);have hwl := which_le q (h.l.take k);rw [List.length_take] at hwl;obtain ⟨s, f, ops⟩ := x;dsimp only at a0 a1 a2;generalize hm : ops.length = m at *;have h01 : (k : Int) < (n2 : Int) := by omega
   have hk0 : (0 : Int) ≤ (k : Int) := Int.natCast_nonneg _;have hwk : IntKind.i64.wrap ((k : Int) + 1) = (k : Int) + 1 := IntWalk.i64_in _ (by omega);have hbr : b < wr.heap.size := by omega
   have HQX : Hid (q ⟨s, f, ops⟩ = decide (f = 1)) := Hd (by rw [HQ.out]);clear hT hOk hx hm;go_upto_region 7 with (fail)
   have O2 : Only [] wr (wr.alloc (.cells #[.int .i64 s, .int .i64 f, .slice A' m cp] 48)) := (Only.refl [] wr).alloc _;have bT := Blk.made wr 48 #[.int .i64 s, .int .i64 f, .slice A' m cp];have HV2 := Hd (own_only hV.out O2 (by simp));have HO2 := Hd (hO.out.trans O2);clear a0 a1 a2 O2 hV hO;generalize (wr.alloc (.cells #[.int .i64 s, .int .i64 f, .slice A' m cp] 48)) = w2 at *;generalize wr.heap.size = gt at *;have lT := bT.lt;have t1 := bT.at_ 1;simp at t1;clear bT
   by_cases hf : f = 1
   ·have HE : Hid (whichL q (h.l.take (k + 1)) = whichL q (h.l.take k) ++ [(k : Int)]) := Hd (by rw [HWT.out, HQX.out, decide_eq_true hf]; simp);subst hf;go_wp2_with (at_builtin; refine wpList_append_row _ rfl (.tmp 20) (.tmp 22) _ rfl w.heap.size 3 i0 _ 1 8 Tryz.underlying41 hi hz0 hz1 hz2 rfl (by omega) _ _ _ rfl (own_only HV2.out ((Only.refl [] _).alloc _) (by simp)) (w2.heap.size + 1) (some ⟨w2.heap.size, 0, none⟩) 1 1 [.int .i64 (k : Int)] rfl rfl (row_lit w2 3 #[.int .i64 (k : Int)]) (by simp [Value.oneCell']) (by unfold maxLen; omega) (by omega) (by have := HO2.out.size; simp; omega) ?_; intro v4 w4 hown4 hgrow hat)
    have REL : w4.ownsRow w.heap.size 3 1 v4 (whichL q (h.l.take (k + 1))).length ((whichL q (h.l.take (k + 1))).map (Value.int .i64)) ∧ Only [] w w4 := by
     refine ⟨?_, (HO2.out.alloc _).step (only_grown hgrow) (own_new HV2.out)⟩;rw [HE.out]
     simpa using hown4
    have HREL := Hd REL;clear REL hown4;go_wp2
    go_roundw
    case rel => first | exact ⟨k + 1, by go_num, by omega, Hd HREL.out.1, Hd HREL.out.2⟩ | exact ⟨_, ⟨k + 1, by go_num, by omega, Hd HREL.out.1, Hd HREL.out.2⟩, rfl⟩
    case measure => simp [intOf]; omega
   ·have HE : Hid (whichL q (h.l.take (k + 1)) = whichL q (h.l.take k)) := Hd (by rw [HWT.out, HQX.out, decide_eq_false hf]; simp);have hf1 : (f == 1) = false := by simpa using hf
    clear hf;go_wp2
    go_roundw
    case rel => exact ⟨k + 1, by go_num, by omega, Hd (by rw [HE.out]; exact HV2.out), HO2⟩
    case measure => simp [intOf]; omega
  ·have hkn : k = n2 := by omega
   subst hkn;have hd2 : decide ((k : Int) < (k : Int)) = false := by simp
   have hVV := hV.out;rw [List.take_of_length_le (by rw [HN2.out]; exact Nat.le_refl _)] at hVV;have HVV := Hd hVV;clear hV hVV;go_wp2
   go_ret
   first | exact ⟨_, ⟨rfl, HVV.out⟩, hO.out⟩ | exact ⟨⟨_, rfl, HVV.out⟩, hO.out⟩
theorem eqW_refl (x : Wld) : eqW x x = true := by simp [eqW]
theorem small_makeR {h : Hst} (hs : HSmall h) (x : Wld) : HSmall (makeR h x).1 := by
 have h0 : HSmall ⟨[], [], []⟩ := ⟨fun x hx => (by cases hx), fun x hx => (by cases hx), Nat.zero_le _, Nat.zero_le _, Nat.zero_le _, fun t ht => (by cases ht)⟩;unfold makeR
 split
 ·split
  ·exact small_make hs x
  ·exact h0
 ·exact h0
theorem wldR_le (h g : Hst) : (wldR h g).c.length ≤ 1000 ∧ (wldR h g).l.length ≤ 100000 := by
 unfold wldR
 split
 ·rename_i e
  have hm : mayH h = true := by
   unfold isWld at e;rw [Bool.and_eq_true] at e;exact e.1
  obtain ⟨h1, h2⟩ := may_tx hm;have h3 := comsT_le h.l g.l;have h4 := readsT_le 20 h.l g.l h2;unfold wldOf;dsimp only;omega
 ·exact ⟨Nat.zero_le _, Nat.zero_le _⟩
theorem back_facts {G : Hst} {X : Wld} (hm : mayW G X = true) : wholeB (makeH G X) = true ∧ isWld G (makeH G X) = true ∧ wldR G (makeH G X) = X ∧ makeR (makeH G X) ⟨[], []⟩ = (makeH G X, 0) := by
 obtain ⟨h0, h1, h2, h3⟩ := mayW_inv hm;rw [lostXw_len] at h2;have hw := whole_make G X h0 h2 (by
  unfold mayW at hm;simp only [Bool.and_eq_true] at hm;exact hm.2.2.2)
 have hb := wld_back G X h1 h2;have hi : isWld G (makeH G X) = true := by
  rw [isWld_ref h0 hw, hb, hm, eqH_refl]
  rfl
 refine ⟨hw, hi, by unfold wldR; rw [if_pos hi, hb], ?_⟩;have hm2 : mayH (makeH G X) = true := by
  have := hw;unfold wholeB at this;rw [Bool.and_eq_true] at this;exact this.1
 have hz := whole_zero hw;have hw2 : mayW (makeH G X) ⟨[], []⟩ = true := by
  unfold mayW;rw [hm2, which_len, hz.1, lostXw_len, hz.2]
  rfl
 unfold makeR;rw [if_pos hm2, if_pos hw2, make_empty hw]
section
variable {m0 m1 m2 k0 k1 k2 : Nat} {G K : Hst} {w : World} {y z : Value} {X Y : Wld} {Bz By : Nat}
theorem few_agg (hy : HAgg w m0 m1 m2 G y) (hf : fewH G = G) : Calls Tryz.prog 6 #[y] w fun e w' => ∃ y', (e = .returned y' ∧ HAgg w' m0 m1 m2 G y') ∧ Only [] w w' := by
 obtain ⟨B, D0, D1, D2, f0, f1, f2, rfl, hI⟩ := hy;refine (few_in D0 D1 D2 m0 m1 m2 f0 f1 f2 B G w hI hf).mono ?_;rintro e w' ⟨B0, B1, B2, d0, d1, d2, ⟨rfl, hI'⟩, O⟩;exact ⟨_, ⟨rfl, _, B0, B1, B2, d0, d1, d2, rfl, hI'⟩, O⟩
theorem wis_agg (hy : HAgg w m0 m1 m2 G y) : Calls Tryz.prog 11 #[y] w fun e w' => e = .returned (.bool (wholeB G)) ∧ Only [] w w' := by
 obtain ⟨B, D0, D1, D2, f0, f1, f2, rfl, hI⟩ := hy;exact wis_any D0 D1 D2 m0 m1 m2 f0 f1 f2 B G w hI
theorem ris17_agg (hy : HAgg w m0 m1 m2 G y) : Calls Tryz.prog 12 #[y] w fun e w' => e = .returned (.bool (wholeB G)) ∧ Only [] w w' := by
 obtain ⟨B, D0, D1, D2, f0, f1, f2, rfl, hI⟩ := hy;exact ris17_any D0 D1 D2 m0 m1 m2 f0 f1 f2 B G w hI
theorem rmay11_agg (hy : HAgg w m0 m1 m2 G y) : Calls Tryz.prog 20 #[y] w fun e w' => e = .returned (.int .i64 (errH G)) ∧ Only [] w w' := by
 obtain ⟨B, D0, D1, D2, f0, f1, f2, rfl, hI⟩ := hy;exact refmay_any D0 D1 D2 m0 m1 m2 f0 f1 f2 B G w hI
theorem rmay16_agg (hy : HAgg w m0 m1 m2 G y) (hz : WAgg w Bz X z) (hx : X.l.length ≤ 50) : Calls Tryz.prog 21 #[y, z] w fun e w' => e = .returned (.bool (mayW G X)) ∧ Only [] w w' := by
 obtain ⟨B, D0, D1, D2, f0, f1, f2, rfl, hi⟩ := hy;obtain ⟨A, c, A', c', rfl, hw⟩ := hz;exact rmay16_any D0 D1 D2 A A' m0 m1 m2 X.c.length X.l.length f0 f1 f2 c c' B _ G X w hi (own_row_at hw.l).1 rfl rfl (by omega)
theorem wmake_agg (hy : HAgg w m0 m1 m2 G y) (hz : WAgg w Bz X z) (hx : X.l.length ≤ 50) :
  Calls Tryz.prog 8 #[y, z] w fun e w' => ∃ Y, (e = .returned (.tuple #[Y, .int .i64 (makeR G X).2]) ∧ HAgg w' (makeR G X).1.ss.length (makeR G X).1.ks.length (makeR G X).1.l.length (makeR G X).1 Y) ∧ Only [] w w' := by
 obtain ⟨B, D0, D1, D2, f0, f1, f2, rfl, hi⟩ := hy;obtain ⟨A, c, A', c', rfl, hw⟩ := hz;refine (wmake_any D0 D1 D2 A A' m0 m1 m2 X.c.length X.l.length f0 f1 f2 c c' B _ _ G X w hi (own_row_at hw.c).1 (own_row_at hw.l).1 rfl rfl (by omega) (own_caps hw.l).1).mono ?_;rintro e w' ⟨B0, B1, B2, d0, d1, d2, ⟨rfl, hn⟩, O⟩;exact ⟨_, ⟨rfl, _, B0, B1, B2, d0, d1, d2, rfl, ⟨hn.at_, rfl, rfl, rfl, small_makeR hi.sm X, hi.u.only O⟩⟩, O⟩
theorem rmake17_agg (hy : HAgg w m0 m1 m2 G y) (hz : WAgg w Bz X z) (hx : X.l.length ≤ 50) :
  Calls Tryz.prog 9 #[y, z] w fun e w' => ∃ Y, (e = .returned (.tuple #[Y, .int .i64 (makeR G X).2]) ∧ HAgg w' (makeR G X).1.ss.length (makeR G X).1.ks.length (makeR G X).1.l.length (makeR G X).1 Y) ∧ Only [] w w' := by
 obtain ⟨B, D0, D1, D2, f0, f1, f2, rfl, hi⟩ := hy;obtain ⟨A, c, A', c', rfl, hw⟩ := hz;refine (rmake17_any D0 D1 D2 A A' m0 m1 m2 X.c.length X.l.length f0 f1 f2 c c' B _ G X w hi (own_row_at hw.l).1 rfl rfl (by omega) (fun hm w' O => rraw17_any D0 D1 D2 A A' m0 m1 m2 X.c.length X.l.length f0 f1 f2 c c' B _ _ G X w' (hi.same O) (own_row_at (own_only hw.c O (by simp))).1 (own_row_at (own_only hw.l O (by simp))).1 rfl rfl (by omega) hm)).mono ?_;rintro e w' ⟨B0, B1, B2, d0, d1, d2, ⟨rfl, hn⟩, O⟩;exact ⟨_, ⟨rfl, _, B0, B1, B2, d0, d1, d2, rfl, ⟨hn, rfl, rfl, rfl, small_makeR hi.sm X, hi.u.only O⟩⟩, O⟩
theorem wwld_agg (hy : HAgg w m0 m1 m2 G y) (hz : HAgg w k0 k1 k2 K z) : Calls Tryz.prog 14 #[y, z] w fun e w' => ∃ Y, (e = .returned (.tuple #[Y, .bool (isWld G K)]) ∧ WAgg w' w.heap.size (wldR G K) Y) ∧ Only [] w w' := by
 obtain ⟨B, D0, D1, D2, f0, f1, f2, rfl, hi⟩ := hy;obtain ⟨B', E0, E1, E2, e0, e1, e2, rfl, hk⟩ := hz;exact wwld_any D0 D1 D2 E0 E1 E2 m0 m1 m2 f0 f1 f2 k0 k1 k2 e0 e1 e2 B B' G K w hi hk
theorem rwwld_agg (hy : HAgg w m0 m1 m2 G y) (hz : HAgg w k0 k1 k2 K z) : Calls Tryz.prog 15 #[y, z] w fun e w' => ∃ Y, (e = .returned (.tuple #[Y, .bool (isWld G K)]) ∧ WAgg w' w.heap.size (wldR G K) Y) ∧ Only [] w w' := by
 obtain ⟨B, D0, D1, D2, f0, f1, f2, rfl, hi⟩ := hy;obtain ⟨B', E0, E1, E2, e0, e1, e2, rfl, hk⟩ := hz;exact rwwld_any D0 D1 D2 E0 E1 E2 m0 m1 m2 f0 f1 f2 k0 k1 k2 e0 e1 e2 B B' G K w hi hk
theorem com17_agg (hy : HAgg w m0 m1 m2 G y) : Calls Tryz.prog 19 #[y] w fun e w' => ∃ A c, (e = .returned (.slice A (comI G).length c) ∧ Row w' w'.heap.size A ((comI G).map (Value.int .i64))) ∧ Only [] w w' := by
 obtain ⟨B, D0, D1, D2, f0, f1, f2, rfl, hi⟩ := hy;refine (com17_any D0 D1 D2 m0 m1 m2 f0 f1 f2 B G w hi).mono ?_;rintro e w' ⟨V, ⟨rfl, hv⟩, O⟩;obtain ⟨A, c, rfl, -, -, -, hr⟩ := own_row hv;exact ⟨A, c, ⟨rfl, hr⟩, O⟩
theorem rcom17_agg (hy : HAgg w m0 m1 m2 G y) (hw : wholeB G = true) : Calls Tryz.prog 16 #[y] w fun e w' => ∃ A c, (e = .returned (.slice A (comI G).length c) ∧ Row w' w'.heap.size A ((comI G).map (Value.int .i64))) ∧ Only [] w w' := by
 obtain ⟨B, D0, D1, D2, f0, f1, f2, rfl, hi⟩ := hy;have e : comI G = whichL (fun t => decide (t.f = 1)) G.l := by unfold comI; rw [if_pos hw]
 rw [e];exact rcom17_any D0 D1 D2 m0 m1 m2 f0 f1 f2 B G w hi.at_.r2 hi.n2 (by have := hi.sm.nl; rw [hi.n2] at this; exact this)
theorem same10_agg (hy : HAgg w m0 m1 m2 G y) (hz : HAgg w k0 k1 k2 K z) : Calls Tryz.prog 10 #[y, z] w fun e w' => e = .returned (.bool (eqH G K)) ∧ Only [] w w' := by
 obtain ⟨B, D0, D1, D2, f0, f1, f2, rfl, hi⟩ := hy;obtain ⟨B', E0, E1, E2, e0, e1, e2, rfl, hk⟩ := hz;exact rsame10_any D0 D1 D2 m0 m1 m2 f0 f1 f2 B G E0 E1 E2 k0 k1 k2 e0 e1 e2 B' K w hi hk
theorem same16_agg (hy : WAgg w By Y y) (hz : WAgg w Bz X z) (h1 : Y.c.length ≤ 100000) (h2 : Y.l.length ≤ 100000) : Calls Tryz.prog 17 #[y, z] w fun e w' => e = .returned (.bool (eqW Y X)) ∧ Only [] w w' := by
 obtain ⟨A, c, A', c', rfl, hw⟩ := hy;obtain ⟨D, d, D', d', rfl, hv⟩ := hz;exact rsame16_any A A' D D' _ _ _ _ c c' d d' _ _ _ _ Y X w (own_row_at hw.c).1 (own_row_at hw.l).1 (own_row_at hv.c).1 (own_row_at hv.l).1 rfl rfl rfl rfl h1 h2
end
def ex17 : ByteArray := ⟨#[98, 101, 103, 105, 110, 32, 115, 10, 114, 101, 97, 100, 32, 115, 32, 120, 32, 63, 10, 105, 110, 102, 111, 32, 115]⟩
def hist17 : Hst := ⟨[⟨#[115]⟩], [⟨#[120]⟩], [⟨0, 3, [⟨false, 0, 2, 0⟩]⟩]⟩
def whole17 : Hst := ⟨[⟨#[115]⟩], [⟨#[120]⟩], [⟨0, 1, [⟨false, 0, 0, 0⟩]⟩]⟩
def evs17 : List Ev6 := [⟨1, ⟨#[115]⟩, ⟨#[]⟩, 0, 0, 1⟩, ⟨2, ⟨#[115]⟩, ⟨#[120]⟩, 2, 0, 2⟩, ⟨6, ⟨#[115]⟩, ⟨#[]⟩, 0, 0, 3⟩]
theorem ex17_log : logParse ex17 = (evs17, 0, 0) := by kernel_rfl
theorem ex17_rows : (linesOf (by_ ex17)).all (fun x => decide (x.length ≤ 65535)) = true := by kernel_rfl
theorem ex17_h : pairH evs17 = hist17 := by kernel_rfl
theorem ex17_e : pairE evs17 = 0 := by kernel_rfl
theorem ex17_l : pairL evs17 = 0 := by kernel_rfl
theorem ex17_show : showR ex17 = (hist17, 0, 0) := by
 unfold showR;rw [ex17_log];dsimp only;rw [if_pos rfl, ex17_h, ex17_e, ex17_l]
theorem ex17_make : makeR hist17 ⟨[true], [(0, 0)]⟩ = (whole17, 0) := by kernel_rfl
theorem ex17_is : wholeB whole17 = true := by decide +kernel
theorem ex17_no : wholeB hist17 = false := by decide +kernel
theorem ex17_com : comI whole17 = [0] := by decide +kernel
theorem ex17_small : HSmall hist17 where
 s := fun x hx => by
  simp [hist17] at hx;subst hx
  decide
 k := fun x hx => by
  simp [hist17] at hx;subst hx
  decide
 ns := by decide
 nk := by decide
 nl := by decide
 no := fun t ht => by
  simp [hist17] at ht;subst ht;simp
theorem works17_any (w : World) (hT : UTabs w) (hM : MLen w) (hV : Verbs w) :
  Calls Tryz.prog 13 #[] w fun e w' => e = .returned (.bool true) ∧ Only [] w w' := by
 have HP := Hd (fun w' (O : Only [] w w') => sparse_any ex17 w' (by decide) (fun x hx => by simpa using List.all_eq_true.1 ex17_rows x hx) (by rw [ex17_log]; decide) (fun x hx => by
  rw [ex17_log] at hx;simp [evs17] at hx;rcases hx with rfl | rfl | rfl <;> exact ⟨by decide, by decide⟩) (hT.only O) (hM.only O) (hV.only O))
 have HI := Hd (fun (A0 A1 A2 : Option Addr) (c0 c1 c2 B : Nat) w' (hA : HAt w' B A0 A1 A2 hist17) (O : Only [] w w') => (⟨B, A0, A1, A2, c0, c1, c2, rfl, hA, rfl, rfl, rfl, ex17_small, hT.only O⟩ : HAgg w' 1 1 1 hist17 (.agg #[.slice A0 1 c0, .slice A1 1 c1, .slice A2 1 c2])));have HMK := Hd (fun (y z : Value) (Bz : Nat) w' (hy : HAgg w' 1 1 1 hist17 y) (hz : WAgg w' Bz ⟨[true], [(0, 0)]⟩ z) => wmake_agg hy hz (by decide));have HIS := Hd (fun (y : Value) w' (hy : HAgg w' 1 1 1 whole17 y) => wis_agg hy);have HNO := Hd (fun (y : Value) w' (hy : HAgg w' 1 1 1 hist17 y) => wis_agg hy);have HCM := Hd (fun (y : Value) w' (hy : HAgg w' 1 1 1 whole17 y) => com17_agg hy);rw [ex17_show] at HP;rw [ex17_make] at HMK;rw [ex17_is] at HIS;rw [ex17_no] at HNO;rw [ex17_com] at HCM;unfold ex17 at HP;clear hT hM hV;go_enter Tryz.func13, Tryz.ntmps13;go_wp2_with fail
 refine (HP.out _ (Only.refl [] w)).mono ?_;rintro e w2 ⟨B0, B1, B2, d0, d1, d2, ⟨rfl, hA⟩, O2⟩;have HA := Hd hA;have HO2 := Hd O2;clear hA O2 HP;rw [show hist17.ss.length = 1 from rfl, show hist17.ks.length = 1 from rfl, show hist17.l.length = 1 from rfl];go_upto_region 2 with (fail)
 have HO3 := Hd (HO2.out.alloc (.cells #[.slice B0 1 d0, .slice B1 1 d1, .slice B2 1 d2] 25));have HB3 := Hd (Blk.made w2 25 #[.slice B0 1 d0, .slice B1 1 d1, .slice B2 1 d2]);have HI3 : Hid (HAgg (w2.alloc (.cells #[.slice B0 1 d0, .slice B1 1 d1, .slice B2 1 d2] 25)) 1 1 1 hist17 (.agg #[.slice B0 1 d0, .slice B1 1 d1, .slice B2 1 d2])) := Hd (HI.out B0 B1 B2 d0 d1 d2 w2.heap.size _ (HA.out.only ((Only.refl [] w2).alloc (.cells #[.slice B0 1 d0, .slice B1 1 d1, .slice B2 1 d2] 25)) (by simp)) HO3.out);clear HA HO2 HI;generalize (w2.alloc (.cells #[.slice B0 1 d0, .slice B1 1 d1, .slice B2 1 d2] 25)) = w3 at *;generalize hg2 : w2.heap.size = g2 at *;have O5 : Only [] w3 ((w3.alloc (.cells #[.bool true] 4)).alloc (.cells #[.int .i64 0, .int .i64 0] 53)) := ((Only.refl [] w3).alloc _).alloc _;have HW5 : Hid (WAgg ((w3.alloc (.cells #[.bool true] 4)).alloc (.cells #[.int .i64 0, .int .i64 0] 53)) w3.heap.size ⟨[true], [(0, 0)]⟩ (.agg #[.slice (some ⟨w3.heap.size, 0, none⟩) 1 1, .slice (some ⟨w3.heap.size + 1, 0, none⟩) 1 1])) := Hd ⟨_, 1, _, 1, rfl, ⟨own_only (World.ownsRow_lit w3 (e := 4) (size := 1) #[.bool true] 1 (Nat.le_refl _) (by unfold maxLen; omega) rfl) ((Only.refl [] _).alloc _) (by simp), by
  have h1 := World.ownsRow_lit (w3.alloc (.cells #[.bool true] 4)) (base := w3.heap.size) (e := 53) (size := 2) #[.int .i64 0, .int .i64 0] 1 (by simp) (by unfold maxLen; omega) rfl;simp only [World.size_alloc] at h1;exact h1⟩⟩
 have HMK5 := Hd (HMK.out _ _ _ _ (HI3.out.same O5) HW5.out);clear HMK HW5;have lHB_ := HB3.out.lt;have y0 := HB3.out.at_ 0;have y1 := HB3.out.at_ 1;have y2 := HB3.out.at_ 2;simp at y0 y1 y2;go_wp2_with fail
 refine (HMK5.out).mono ?_;rintro e w6 ⟨yg, ⟨rfl, HYG0⟩, O6⟩;clear lHB_ y0 y1 y2;have HO6 := Hd (HO3.out.trans (O5.trans O6));have HB6 := Hd ((O5.trans O6).blk HB3.out (by simp));have HI6 := Hd (HI3.out.same (O5.trans O6));clear HO3 HB3 HI3;obtain ⟨BG, E0, E1, E2, q0, q1, q2, rfl, hIG⟩ := HYG0;have HYG6 : Hid (HAgg w6 1 1 1 whole17 (.agg #[.slice E0 1 q0, .slice E1 1 q1, .slice E2 1 q2])) := Hd ⟨BG, E0, E1, E2, q0, q1, q2, rfl, hIG⟩;clear O5 O6 HMK5 hIG;dsimp only;rw [show whole17.ss.length = 1 from rfl, show whole17.ks.length = 1 from rfl, show whole17.l.length = 1 from rfl];go_upto_region 3 with (fail)
 have HG7 := Hd (Blk.made w6 25 #[.slice E0 1 q0, .slice E1 1 q1, .slice E2 1 q2]);have O7 : Only [] w6 (w6.alloc (.cells #[.slice E0 1 q0, .slice E1 1 q1, .slice E2 1 q2] 25)) := (Only.refl [] w6).alloc _;have HO7 := Hd (HO6.out.trans O7);have HB7 := Hd (O7.blk HB6.out (by simp));have HI7 := Hd (HI6.out.same O7);have HYG7 := Hd (HYG6.out.same O7);clear HO6 HB6 HI6 HYG6;clear O7;generalize (w6.alloc (.cells #[.slice E0 1 q0, .slice E1 1 q1, .slice E2 1 q2] 25)) = w7 at *;generalize w6.heap.size = g7 at *;have lHB_ := HB7.out.lt;have y0 := HB7.out.at_ 0;have y1 := HB7.out.at_ 1;have y2 := HB7.out.at_ 2;have lHG_ := HG7.out.lt;have z0 := HG7.out.at_ 0;have z1 := HG7.out.at_ 1;have z2 := HG7.out.at_ 2;simp at y0 y1 y2 z0 z1 z2;go_wp2_with fail
 refine (HIS.out _ _ HYG7.out).mono ?_;rintro e w8 ⟨rfl, O8⟩;clear lHB_ lHG_ y0 y1 y2 z0 z1 z2;have HO8 := Hd (HO7.out.trans O8);have HB8 := Hd (O8.blk HB7.out (by simp));have HI8 := Hd (HI7.out.same O8);have HYG8 := Hd (HYG7.out.same O8);have HG8 := Hd (O8.blk HG7.out (by simp));clear HO7 HB7 HI7 HYG7 HG7;clear O8;have lHB_ := HB8.out.lt;have y0 := HB8.out.at_ 0;have y1 := HB8.out.at_ 1;have y2 := HB8.out.at_ 2;have lHG_ := HG8.out.lt;have z0 := HG8.out.at_ 0;have z1 := HG8.out.at_ 1;have z2 := HG8.out.at_ 2;simp at y0 y1 y2 z0 z1 z2;go_wp2_with fail
 refine (HNO.out _ _ HI8.out).mono ?_;rintro e w9 ⟨rfl, O9⟩;clear lHB_ lHG_ y0 y1 y2 z0 z1 z2;have HO9 := Hd (HO8.out.trans O9);have HB9 := Hd (O9.blk HB8.out (by simp));have HI9 := Hd (HI8.out.same O9);have HYG9 := Hd (HYG8.out.same O9);have HG9 := Hd (O9.blk HG8.out (by simp));clear HO8 HB8 HI8 HYG8 HG8;clear O9;have lHB_ := HB9.out.lt;have y0 := HB9.out.at_ 0;have y1 := HB9.out.at_ 1;have y2 := HB9.out.at_ 2;have lHG_ := HG9.out.lt;have z0 := HG9.out.at_ 0;have z1 := HG9.out.at_ 1;have z2 := HG9.out.at_ 2;simp at y0 y1 y2 z0 z1 z2;have hnot : (!false) = true := rfl;go_wp2_with fail
 refine (HCM.out _ _ HYG9.out).mono ?_;rintro e wa ⟨AC, cC, ⟨rfl, hrc⟩, Oa⟩;clear lHB_ lHG_ y0 y1 y2 z0 z1 z2;have HRC := Hd hrc;have HOA := Hd (HO9.out.trans Oa);clear Oa hrc HYG9 HI9 HB9 HG9 HO9;have HSM := Hd (sameInts_any AC (some ⟨wa.heap.size, 0, none⟩) 1 1 cC 1 [0] [0] (wa.alloc (.cells #[.int .i64 0] 3)) wa.heap.size (wa.heap.size + 1) (HRC.out.only ((Only.refl [] wa).alloc (.cells #[.int .i64 0] 3)) (by simp)) (row_lit wa 3 #[.int .i64 0]) rfl rfl (by omega) (by omega));rw [decide_eq_true (show ([0] : List Int) = [0] from rfl)] at HSM;rw [show ([0] : List Int).length = 1 from rfl];go_wp2_with fail
 refine (HSM.out).mono ?_;rintro e wb ⟨rfl, kb, rfl⟩;have HZ := Hd ((HOA.out.alloc (.cells #[.int .i64 0] 3)).drewN kb);go_wp2
 go_ret
 exact ⟨rfl, HZ.out⟩
end Go.Proofs.YtghimogdeijgdaaGreatDoor
namespace Go.Proofs.YtghimogdeijgdaaGreatDoor

end Go.Proofs.YtghimogdeijgdaaGreatDoor
