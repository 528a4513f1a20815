/- Parts. -/
import Derived.Test.YtghimogdeijgdaaGreatDoorLaw17AllK16
import Derived.Test.YtghimogdeijgdaaGreatDoorLaw17AllK17
set_option maxRecDepth 10000
set_option maxHeartbeats 16000000
set_option linter.unusedVariables false
set_option linter.unusedSimpArgs false
namespace Go.Proofs.YtghimogdeijgdaaGreatDoor
open Go.RowKit
open Go.Lib hiding intOf
attribute [local go_sem ↓] Go.wp_at_zero Go.wp_at_succ
theorem lostN_any (l : List Op4) : l.any lostB = false ↔ lostN l = 0 := by
 unfold lostN;rw [List.length_eq_zero_iff, List.filter_eq_nil_iff, List.any_eq_false];exact Iff.rfl
theorem any_unk : ∀ l : List Tx, l.any unkB = false ↔ (l.filter infoB).length + lostT l = 0
 | [] => by simp [lostT]
 | t :: r => by
  rw [List.any_cons, Bool.or_eq_false_iff, any_unk r, lostT_cons, List.filter_cons];unfold unkB;rw [Bool.or_eq_false_iff, lostN_any]
  by_cases e : t.f = 3
  ·simp [e, infoB]
  ·have : infoB t = false := by simp [infoB, e]
   rw [this, if_neg (by simp), decide_eq_false e];exact ⟨fun ⟨⟨_, h1⟩, h2⟩ => by omega, fun h => ⟨⟨rfl, by omega⟩, by omega⟩⟩
theorem whole_count (h : Hst) : wholeB h = (mayH h && decide ((whichL (fun t => decide (t.f = 3)) h.l).length + (lostP (plsL h.l)).length = 0)) := by
 have e : (whichL (fun t => decide (t.f = 3)) h.l).length = (h.l.filter infoB).length := which_len infoB h.l;rw [whole_unk, lostP_eq, List.length_map, lostXw_len, e]
 congr 1
 have := any_unk h.l
 cases hb : h.l.any unkB
 ·rw [decide_eq_true (this.1 hb)]; rfl
 ·rw [decide_eq_false (fun e => by rw [this.2 e] at hb; cases hb)]; rfl
theorem lostN_le (l : List Op4) : lostN l ≤ l.length := List.length_filter_le _ _
theorem lostT_le : ∀ l : List Tx, (∀ t ∈ l, t.ops.length ≤ 1000) → lostT l ≤ 1000 * l.length
 | [], _ => by simp [lostT]
 | t :: r, h => by
  rw [lostT_cons, List.length_cons];have h1 := lostT_le r (fun u hu => h u (List.mem_cons_of_mem _ hu));have h2 := lostN_le t.ops;have h3 := h t List.mem_cons_self;omega
theorem wis_any (A0 A1 A2 : Option Addr) (n0 n1 n2 c0 c1 c2 B : Nat) (h : Hst) (w : World) (hg : HIn w B A0 A1 A2 n0 n1 n2 h) :
  Calls Tryz.prog 11 #[hval A0 A1 A2 n0 n1 n2 c0 c1 c2] w fun e w' => e = .returned (.bool (wholeB h)) ∧ Only [] w w' := by
 rw [whole_unk];have HMY := Hd (fun w' (O : Only [] w w') => hmay_any A0 A1 A2 n0 n1 n2 c0 c1 c2 B h w' (hg.same O));have HUN := Hd (fun w' (O : Only [] w w') => unkHas_any A2 n2 c2 B h.l w' (hg.same O).at_.r2 hg.n2 (by have := hg.sm.nl; rw [hg.n2] at this; exact this) hg.sm.no);generalize h.l.any unkB = q at *;unfold hval at *;have HO1 := Hd ((Only.refl [] w).alloc (.cells #[.slice A0 n0 c0, .slice A1 n1 c1, .slice A2 n2 c2] 25));have HB1 := Hd (Blk.made w 25 #[.slice A0 n0 c0, .slice A1 n1 c1, .slice A2 n2 c2]);clear hg
 cases hm : mayH h with
 | false =>
  rw [errH_not hm] at HMY;rw [Bool.false_and];clear HUN HB1 hm;go_enter Tryz.func11, Tryz.ntmps11;go_wp2_with fail
  refine (HMY.out _ HO1.out).mono ?_;rintro e w2 ⟨rfl, O2⟩;have HO2 := Hd (HO1.out.trans O2);clear O2;go_wp2
  go_ret
  exact ⟨rfl, HO2.out⟩
 | true =>
  rw [errH_yes hm] at HMY;rw [Bool.true_and];clear hm;go_enter Tryz.func11, Tryz.ntmps11;go_wp2_with fail
  refine (HMY.out _ HO1.out).mono ?_;rintro e w2 ⟨rfl, O2⟩;have HO2 := Hd (HO1.out.trans O2);have hb := O2.blk HB1.out (by simp);have lb := hb.lt;have y2 := hb.at_ 2;simp at y2;clear O2 hb;go_wp2_with fail
  refine (HUN.out _ HO2.out).mono ?_;rintro e w3 ⟨rfl, O3⟩;have HO3 := Hd (HO2.out.trans O3);clear O3;go_wp2
  go_ret
  exact ⟨rfl, HO3.out⟩
theorem ris17_any (A0 A1 A2 : Option Addr) (n0 n1 n2 c0 c1 c2 B : Nat) (h : Hst) (w : World) (hg : HIn w B A0 A1 A2 n0 n1 n2 h) :
  Calls Tryz.prog 12 #[hval A0 A1 A2 n0 n1 n2 c0 c1 c2] w fun e w' => e = .returned (.bool (wholeB h)) ∧ Only [] w w' := by
 rw [whole_count];have HMY := Hd (fun w' (O : Only [] w w') => refmay_any A0 A1 A2 n0 n1 n2 c0 c1 c2 B h w' (hg.same O));have HIN := Hd (fun w' (O : Only [] w w') => rinfos_any A0 A1 A2 n0 n1 n2 c0 c1 c2 B h w' (hg.same O).at_.r2 hg.n2 (by have := hg.sm.nl; rw [hg.n2] at this; exact this));have HLS := Hd (fun w' (O : Only [] w w') => rlost_any A0 A1 A2 n0 n1 n2 c0 c1 c2 B h w' (hg.same O).at_.r2 hg.n2 (by have := hg.sm.nl; rw [hg.n2] at this; exact this) hg.sm.no);have hb1 : (whichL (fun t => decide (t.f = 3)) h.l).length ≤ 1000 := Nat.le_trans (which_le _ _) hg.sm.nl;have hb2 : (lostP (plsL h.l)).length ≤ 1000000 := by
  rw [lostP_eq, List.length_map, lostXw_len];have h1 := lostT_le h.l hg.sm.no;have h2 := hg.sm.nl;omega
 generalize (whichL (fun t => decide (t.f = 3)) h.l).length = a at *;generalize (lostP (plsL h.l)).length = b at *;have hw : IntKind.i64.wrap ((a : Int) + (b : Int)) = (a : Int) + (b : Int) := IntWalk.i64_in _ (by omega);have hz : (((a : Int) + (b : Int)) == 0) = decide (a + b = 0) := by
  by_cases e : a + b = 0
  ·rw [decide_eq_true e]; simp; omega
  ·rw [decide_eq_false e]; simp; omega
 unfold hval at *;have HO1 := Hd ((Only.refl [] w).alloc (.cells #[.slice A0 n0 c0, .slice A1 n1 c1, .slice A2 n2 c2] 25));have HB1 := Hd (Blk.made w 25 #[.slice A0 n0 c0, .slice A1 n1 c1, .slice A2 n2 c2]);clear hg hb1 hb2
 cases hm : mayH h with
 | false =>
  rw [errH_not hm] at HMY;rw [Bool.false_and];clear HIN HLS hm hw hz;go_enter Tryz.func12, Tryz.ntmps12;go_upto_region 1 with (fail)
  generalize (w.alloc (.cells #[.slice A0 n0 c0, .slice A1 n1 c1, .slice A2 n2 c2] 25)) = w1 at *;generalize w.heap.size = g at *;refine rg1 [] [] w1 ?_;have OW : Only [] w1 w1.drew := (Only.refl [] w1).drew;generalize w1.drew = wz at *;refine trd (i := 0) (v := ?_) 0 ?_ ?_;rotate_left
  ·(intro wq hSw; obtain ⟨lb_H, y0, y1, y2⟩ := Bk3 (hSw.blk HB1.out (by simp)); simp at y0 y1 y2; clear hSw; go_simp; try with_reducible rfl)
  (try simp only [tdz]);refine tst (i := 1) fun K hK => ?_;go_simp;refine (HMY.out _ (HO1.out.trans OW)).mono ?_;rintro e wa ⟨rfl, Oa⟩;have OW1 := OW.trans Oa;clear Oa;refine kOut hK (OW1) (h := ?_);clear hK K;refine tQ 2 (h := tQ 3 (h := tiq 4 (h := tiq 5 (h := tiq 6 (h := tiq 7 (h := tiq 8 (h := tiq 9 (h := tiq 10 (h := tiq 11 (h := tQ 12 (h := tQ 13 (h := ?_))))))))))));refine tdn ?_;have HO2 := Hd (HO1.out.trans OW1);go_wp2
  go_ret
  exact ⟨rfl, HO2.out⟩
 | true =>
  rw [errH_yes hm] at HMY;rw [Bool.true_and, ← hz];clear hm hz;go_enter Tryz.func12, Tryz.ntmps12;go_upto_region 1 with (fail)
  generalize (w.alloc (.cells #[.slice A0 n0 c0, .slice A1 n1 c1, .slice A2 n2 c2] 25)) = w1 at *;generalize w.heap.size = g at *;have RD0 := Hd fun wq (hSw : Only [] w1 wq) => Bk3 (hSw.blk HB1.out (by simp));refine rg1 [] [] w1 ?_;have OW : Only [] w1 w1.drew := (Only.refl [] w1).drew;generalize w1.drew = wz at *;refine trq 0 0 RD0 (h := ?_);refine tst (i := 1) fun K hK => ?_;go_simp;refine (HMY.out _ (HO1.out.trans OW)).mono ?_;rintro e wa ⟨rfl, Oa⟩;have OW1 := OW.trans Oa;clear Oa;refine kOut hK (OW1) (h := ?_);clear hK K;refine tQ 2 (h := tQ 3 (h := trq 4 0 RD0 (h := trq 7 0 RD0 (h := ?_))));refine tst (i := 5) fun K hK => ?_;go_simp;refine (HIN.out _ (HO1.out.trans OW1)).mono ?_;rintro e wb ⟨Ai, ci, ⟨rfl, -⟩, Ob⟩;have OW2 := OW1.trans Ob;clear Ob;refine kOut hK (OW2) (h := ?_);clear hK K;refine tQ 6 (h := ?_);refine tst (i := 8) fun K hK => ?_;go_simp;refine (HLS.out _ (HO1.out.trans OW2)).mono ?_;rintro e wc ⟨Al, cl, ⟨rfl, -⟩, Oc⟩;have OW3 := OW2.trans Oc;clear Oc;refine kOut hK (OW3) (h := ?_);clear hK K;refine tQ 9 (h := tQ 10 (h := tQ 11 (h := tQ 12 (h := tQ 13 (h := ?_)))));refine tdn ?_;have HO2 := Hd (HO1.out.trans OW3);go_wp2
  go_ret
  exact ⟨rfl, HO2.out⟩
theorem rcom17_any (A0 A1 A2 : Option Addr) (n0 n1 n2 c0 c1 c2 B : Nat) (h : Hst) (w : World) (hg : LRow w B A2 h.l) (hn2 : h.l.length = n2) (hM : n2 ≤ 1000) :
  Calls Tryz.prog 16 #[hval A0 A1 A2 n0 n1 n2 c0 c1 c2] w fun e w' =>
   ∃ A c, (e = .returned (.slice A (whichL (fun t => decide (t.f = 1)) h.l).length c) ∧ Row w' w'.heap.size A ((whichL (fun t => decide (t.f = 1)) h.l).map (Value.int .i64))) ∧ Only [] w w' := by
 unfold hval;obtain ⟨i0, hi, hz0, hz1, hz2⟩ := info_parts info_int;have HG := Hd hg;have HN2 := Hd hn2;have HO := Hd (((Only.refl [] w).alloc (.cells #[.slice A0 n0 c0, .slice A1 n1 c1, .slice A2 n2 c2] 25)).alloc (.cells #[] 3));have HB := Hd ((Blk.made w 25 #[.slice A0 n0 c0, .slice A1 n1 c1, .slice A2 n2 c2]).alloc (.cells #[] 3));have HV := Hd (World.ownsRow_lit (w.alloc (.cells #[.slice A0 n0 c0, .slice A1 n1 c1, .slice A2 n2 c2] 25)) (e := 3) (size := 1) #[] 0 (Nat.le_refl _) (by unfold maxLen; omega) rfl);rw [World.size_alloc] at HV;clear hg hn2;obtain ⟨q, hq⟩ : ∃ q : Tx → Bool, q = fun t => decide (t.f = 1) := ⟨_, rfl⟩;rw [← hq];have HQ := Hd hq;clear hq;go_enter Tryz.func16, Tryz.ntmps16;go_wp2_with fail
 go_loopw [3, 4] (fun V iv wr => ∃ k : Nat, iv = .int .i64 k ∧ k ≤ n2 ∧ Hid (wr.ownsRow (w.heap.size + 1) 3 1 V (whichL q (h.l.take k)).length ((whichL q (h.l.take k)).map (Value.int .i64))) ∧ Hid (Blk wr w.heap.size 25 #[.slice A0 n0 c0, .slice A1 n1 c1, .slice A2 n2 c2]) ∧ Hid (Only [] w wr)) (fun _ iv _ => n2 - (intOf iv).toNat)
 case atStart => exact ⟨0, rfl, by omega, HV, HB, HO⟩
 case round =>
  obtain ⟨k, rfl, hk, hV, hB, hO⟩ := hrel;clear HV HB HO;have hsz := hO.out.size;have lB := hB.out.lt;have b2 := hB.out.at_ 2;simp at b2
  by_cases hlt : k < n2
  ·obtain ⟨x, hx⟩ : ∃ x, h.l[k]? = some x := ⟨_, List.getElem?_eq_getElem (by rw [HN2.out]; exact hlt)⟩;obtain ⟨b, off, A', cp, rfl, -, hbw, hT, hOk⟩ := HG.out.at_ hx;obtain ⟨a0, a1, a2⟩ := hT.only hO.out hbw (by simp);have HWT := Hd (which_take (p := q) hx);have hwl := which_le q (h.l.take k);rw [List.length_take] at hwl;obtain ⟨s, f, ops⟩ := x;dsimp only at a0 a1 a2;have h01 : (k : Int) < (n2 : Int) := by omega
   have hk0 : (0 : Int) ≤ (k : Int) := Int.natCast_nonneg _;have hwk : IntKind.i64.wrap ((k : Int) + 1) = (k : Int) + 1 := IntWalk.i64_in _ (by omega);have hbr : b < wr.heap.size := by omega
   have HQX : Hid (q ⟨s, f, ops⟩ = decide (f = 1)) := Hd (by rw [HQ.out]);clear hT hOk hx a2
   by_cases hf : f = 1
   ·have HE : Hid (whichL q (h.l.take (k + 1)) = whichL q (h.l.take k) ++ [(k : Int)]) := Hd (by rw [HWT.out, HQX.out, decide_eq_true hf]; simp);subst hf;go_wp2_with (at_builtin; refine wpList_append_row _ rfl (.tmp 20) (.tmp 22) _ rfl (w.heap.size + 1) 3 i0 _ 1 8 Tryz.underlying41 hi hz0 hz1 hz2 rfl (by omega) _ _ _ rfl (own_only hV.out ((Only.refl [] _).alloc _) (by simp)) (wr.heap.size + 1) (some ⟨wr.heap.size, 0, none⟩) 1 1 [.int .i64 (k : Int)] rfl rfl (row_lit wr 3 #[.int .i64 (k : Int)]) (by simp [Value.oneCell']) (by unfold maxLen; omega) (by omega) (by simp; omega) ?_; intro v4 w4 hown4 hgrow hat)
    have hb1 := hB.out.alloc (.cells #[.int .i64 (k : Int)] 3);have hv1 := own_only hV.out ((Only.refl [] wr).alloc (.cells #[.int .i64 (k : Int)] 3)) (by simp);have REL : w4.ownsRow (w.heap.size + 1) 3 1 v4 (whichL q (h.l.take (k + 1))).length ((whichL q (h.l.take (k + 1))).map (Value.int .i64)) ∧ Blk w4 w.heap.size 25 #[.slice A0 n0 c0, .slice A1 n1 c1, .slice (some ⟨b, off, none⟩) n2 c2] ∧ Only [] w w4 := by
     refine ⟨?_, (only_grown hgrow).blk hb1 (own_apart hv1 hb1 (by decide)), (hO.out.alloc _).step (only_grown hgrow) (fun i hi hl => own_new hV.out (S := []) i hi (by omega))⟩;rw [HE.out]
     simpa using hown4
    have HREL := Hd REL;clear REL hown4 lB b2 hb1 hv1;go_wp2
    go_roundw
    case rel => first | exact ⟨k + 1, by go_num, by omega, Hd HREL.out.1, Hd HREL.out.2.1, Hd HREL.out.2.2⟩ | exact ⟨_, ⟨k + 1, by go_num, by omega, Hd HREL.out.1, Hd HREL.out.2.1, Hd HREL.out.2.2⟩, rfl⟩
    case measure => simp [intOf]; omega
   ·have HE : Hid (whichL q (h.l.take (k + 1)) = whichL q (h.l.take k)) := Hd (by rw [HWT.out, HQX.out, decide_eq_false hf]; simp);have hf1 : (f == 1) = false := by simpa using hf
    clear hf;go_wp2
    go_roundw
    case rel => exact ⟨k + 1, by go_num, by omega, Hd (by rw [HE.out]; exact hV.out), hB, hO⟩
    case measure => simp [intOf]; omega
  ·have hkn : k = n2 := by omega
   subst hkn;have hd2 : decide ((k : Int) < (k : Int)) = false := by simp
   have hVV := hV.out;rw [List.take_of_length_le (by rw [HN2.out]; exact Nat.le_refl _)] at hVV;obtain ⟨A, c, rfl, -, -, -, hR⟩ := own_row hVV;have HR := Hd hR;clear hV hVV hR;go_wp2
   go_ret
   first | exact ⟨⟨_, ⟨_, rfl⟩, HR.out⟩, hO.out⟩ | exact ⟨_, _, ⟨rfl, HR.out⟩, hO.out⟩
end Go.Proofs.YtghimogdeijgdaaGreatDoor
namespace Go.Proofs.YtghimogdeijgdaaGreatDoor
open Go.RowKit
structure Ev6 where
 k : Int
 s : ByteArray
 y : ByteArray
 vk : Int
 vn : Int
 ln : Int
def Ev6.c (x : Ev6) : List Value := [.int .i64 x.k, .string x.s, .string x.y, .int .i64 x.vk, .int .i64 x.vn, .int .i64 x.ln]
def logC (l : List Ev6) : List Value := l.flatMap Ev6.c
theorem logC_len (l : List Ev6) : (logC l).length = l.length * 6 := by
 induction l with
 | nil => rfl
 | cons x l ih => simp only [logC, List.flatMap_cons, List.length_append, List.length_cons] at ih ⊢; rw [ih]; simp [Ev6.c]; omega
theorem logC_snoc (l : List Ev6) (x : Ev6) : logC (l ++ [x]) = logC l ++ x.c := by simp [logC]
theorem logC_get : ∀ (l : List Ev6) (i : Nat) (x : Ev6), l[i]? = some x → ∀ j, j < 6 → (logC l)[i * 6 + j]? = x.c[j]?
 | [], i, x, h, _, _ => by simp at h
 | x0 :: l, 0, x, h, j, hj => by
  simp at h;subst h;simp only [logC, List.flatMap_cons];rw [List.getElem?_append_left (by simp [Ev6.c]; omega)];simp
 | x0 :: l, i + 1, x, h, j, hj => by
  have := logC_get l i x (by simpa using h) j hj;simp only [logC, List.flatMap_cons] at this ⊢;rw [List.getElem?_append_right (by simp [Ev6.c]; omega)];rw [← this]
  congr 1
  simp [Ev6.c];omega
theorem info_event : (Tryz.prog.info? 95).map (fun i => (i.zero, i.size, i.bytes)) = some (some (.agg #[.int .i64 0, .string ⟨#[]⟩, .string ⟨#[]⟩, .int .i64 0, .int .i64 0, .int .i64 0]), 6, 64) := by kernel_rfl
structure EvAt (w : World) (b o : Nat) (x : Ev6) : Prop where
 c0 : w.cell? ⟨b, o, none⟩ = some (.int .i64 x.k)
 c1 : w.cell? ⟨b, o + 1, none⟩ = some (.string x.s)
 c2 : w.cell? ⟨b, o + 2, none⟩ = some (.string x.y)
 c3 : w.cell? ⟨b, o + 3, none⟩ = some (.int .i64 x.vk)
 c4 : w.cell? ⟨b, o + 4, none⟩ = some (.int .i64 x.vn)
 c5 : w.cell? ⟨b, o + 5, none⟩ = some (.int .i64 x.ln)
theorem EvAt.only {S : List Nat} {w w' : World} {b o : Nat} {x : Ev6} (h : EvAt w b o x) (ho : Only S w w') (hb : b < w.heap.size) (hs : b ∉ S) : EvAt w' b o x :=
 ⟨(ho.cell (p := ⟨b, o, none⟩) hb hs).trans h.c0, (ho.cell (p := ⟨b, o + 1, none⟩) hb hs).trans h.c1, (ho.cell (p := ⟨b, o + 2, none⟩) hb hs).trans h.c2, (ho.cell (p := ⟨b, o + 3, none⟩) hb hs).trans h.c3,
  (ho.cell (p := ⟨b, o + 4, none⟩) hb hs).trans h.c4, (ho.cell (p := ⟨b, o + 5, none⟩) hb hs).trans h.c5⟩
theorem row_ev {w : World} {B : Nat} {A : Option Addr} {l : List Ev6} (h : Row w B A (logC l)) {k : Nat} {x : Ev6} (hk : l[k]? = some x) : ∃ b off, A = some ⟨b, off, none⟩ ∧ b < B ∧ b < w.heap.size ∧ EvAt w b (off + k * 6) x := by
 have hlt := (List.getElem?_eq_some_iff.1 hk).1;obtain ⟨b, off, rfl, h1, h2, hc⟩ := h.open_ (k := k * 6) (by rw [logC_len]; omega);have g := logC_get l k x hk;refine ⟨b, off, rfl, h1, h2, ⟨?_, ?_, ?_, ?_, ?_, ?_⟩⟩
 ·exact hc (k * 6) _ (g 0 (by omega))
 ·rw [Nat.add_assoc]; exact hc _ _ (g 1 (by omega))
 ·rw [Nat.add_assoc]; exact hc _ _ (g 2 (by omega))
 ·rw [Nat.add_assoc]; exact hc _ _ (g 3 (by omega))
 ·rw [Nat.add_assoc]; exact hc _ _ (g 4 (by omega))
 ·rw [Nat.add_assoc]; exact hc _ _ (g 5 (by omega))
end Go.Proofs.YtghimogdeijgdaaGreatDoor
namespace Go.Proofs.YtghimogdeijgdaaGreatDoor
open Go.Lib
def kOk (k : Int) : Bool := decide (1 ≤ k ∧ k ≤ 6)
def kN (k : Int) : Int := if 1 ≤ k ∧ k ≤ 6 then k else 0
def kW (k : Int) : ByteArray := if k = 1 then ⟨#[98, 101, 103, 105, 110]⟩ else if k = 2 then ⟨#[114, 101, 97, 100]⟩ else if k = 3 then ⟨#[119, 114, 105, 116, 101]⟩ else if k = 4 then ⟨#[111, 107]⟩ else if k = 5 then ⟨#[102, 97, 105, 108]⟩ else if k = 6 then ⟨#[105, 110, 102, 111]⟩ else ⟨#[]⟩
def kO (k : Int) : Bool := decide (k = 2 ∨ k = 3)
def wK (s : ByteArray) : Int := if s = ⟨#[98, 101, 103, 105, 110]⟩ then 1 else if s = ⟨#[114, 101, 97, 100]⟩ then 2 else if s = ⟨#[119, 114, 105, 116, 101]⟩ then 3 else if s = ⟨#[111, 107]⟩ then 4 else if s = ⟨#[102, 97, 105, 108]⟩ then 5 else if s = ⟨#[105, 110, 102, 111]⟩ then 6 else 0
theorem kN_cases (k : Int) : (k = 1) ∨ (k = 2) ∨ (k = 3) ∨ (k = 4) ∨ (k = 5) ∨ (k = 6) ∨ (kN k = 0 ∧ kOk k = false ∧ kO k = false ∧ kW k = ⟨#[]⟩ ∧ k ≠ 1 ∧ k ≠ 2 ∧ k ≠ 3 ∧ k ≠ 4 ∧ k ≠ 5 ∧ k ≠ 6) := by
 by_cases h : 1 ≤ k ∧ k ≤ 6
 ·omega
 ·have h1 : k ≠ 1 := by omega
  have h2 : k ≠ 2 := by omega
  have h3 : k ≠ 3 := by omega
  have h4 : k ≠ 4 := by omega
  have h5 : k ≠ 5 := by omega
  have h6 : k ≠ 6 := by omega
  iterate 6 right
  refine ⟨if_neg h, decide_eq_false h, decide_eq_false (by omega), ?_, h1, h2, h3, h4, h5, h6⟩;unfold kW;rw [if_neg h1, if_neg h2, if_neg h3, if_neg h4, if_neg h5, if_neg h6]
theorem wK_cases (s : ByteArray) : (s = ⟨#[98, 101, 103, 105, 110]⟩ ∧ wK s = 1) ∨ (s = ⟨#[114, 101, 97, 100]⟩ ∧ wK s = 2) ∨ (s = ⟨#[119, 114, 105, 116, 101]⟩ ∧ wK s = 3) ∨ (s = ⟨#[111, 107]⟩ ∧ wK s = 4) ∨ (s = ⟨#[102, 97, 105, 108]⟩ ∧ wK s = 5) ∨ (s = ⟨#[105, 110, 102, 111]⟩ ∧ wK s = 6) ∨ (wK s = 0 ∧ s ≠ ⟨#[98, 101, 103, 105, 110]⟩ ∧ s ≠ ⟨#[114, 101, 97, 100]⟩ ∧ s ≠ ⟨#[119, 114, 105, 116, 101]⟩ ∧ s ≠ ⟨#[111, 107]⟩ ∧ s ≠ ⟨#[102, 97, 105, 108]⟩ ∧ s ≠ ⟨#[105, 110, 102, 111]⟩) := by
 unfold wK
 by_cases h1 : s = ⟨#[98, 101, 103, 105, 110]⟩
 ·subst h1; left; exact ⟨rfl, by decide⟩
 by_cases h2 : s = ⟨#[114, 101, 97, 100]⟩
 ·subst h2; right; left; exact ⟨rfl, by decide⟩
 by_cases h3 : s = ⟨#[119, 114, 105, 116, 101]⟩
 ·subst h3; right; right; left; exact ⟨rfl, by decide⟩
 by_cases h4 : s = ⟨#[111, 107]⟩
 ·subst h4; right; right; right; left; exact ⟨rfl, by decide⟩
 by_cases h5 : s = ⟨#[102, 97, 105, 108]⟩
 ·subst h5; right; right; right; right; left; exact ⟨rfl, by decide⟩
 by_cases h6 : s = ⟨#[105, 110, 102, 111]⟩
 ·subst h6; right; right; right; right; right; left; exact ⟨rfl, by decide⟩
 iterate 6 right
 exact ⟨by rw [if_neg h1, if_neg h2, if_neg h3, if_neg h4, if_neg h5, if_neg h6], h1, h2, h3, h4, h5, h6⟩
theorem ev_ne {s : ByteArray} {l : List UInt8} (h : s ≠ ⟨l.toArray⟩) : (s.toList == l) = false ∧ (l == s.toList) = false := by
 constructor
 all_goals
  rw [beq_eq_false_iff_ne, Lib.toList_data];intro e
 ·exact h (by_inj (e.trans List.toList_toArray.symm))
 ·exact h (by_inj (e.symm.trans List.toList_toArray.symm))
def verbC : List Value := [.int .i64 1, .string ⟨#[98, 101, 103, 105, 110]⟩, .bool false, .int .i64 2, .string ⟨#[114, 101, 97, 100]⟩, .bool true, .int .i64 3, .string ⟨#[119, 114, 105, 116, 101]⟩, .bool true, .int .i64 4, .string ⟨#[111, 107]⟩, .bool false, .int .i64 5, .string ⟨#[102, 97, 105, 108]⟩, .bool false, .int .i64 6, .string ⟨#[105, 110, 102, 111]⟩, .bool false]
def verbV : Value := .agg #[.int .i64 1, .string ⟨#[98, 101, 103, 105, 110]⟩, .bool false, .int .i64 2, .string ⟨#[114, 101, 97, 100]⟩, .bool true, .int .i64 3, .string ⟨#[119, 114, 105, 116, 101]⟩, .bool true, .int .i64 4, .string ⟨#[111, 107]⟩, .bool false, .int .i64 5, .string ⟨#[102, 97, 105, 108]⟩, .bool false, .int .i64 6, .string ⟨#[105, 110, 102, 111]⟩, .bool false]
def Verbs (w : World) : Prop := 2 < w.heap.size ∧ ∀ (i : Nat) (u : Value), verbC[i]? = some u → w.cell? ⟨2, i, none⟩ = some u
theorem Verbs.only {w w' : World} (h : Verbs w) (ho : Only [] w w') : Verbs w' :=
 ⟨Nat.lt_of_lt_of_le h.1 ho.size, fun i u hu => (ho.cell (p := ⟨2, i, none⟩) h.1 (by simp)).trans (h.2 i u hu)⟩
theorem verb_i0 (w : World) : (Instr.index 143 verbV (.int .i64 0)).run Tryz.prog w = .ok (.agg #[.int .i64 1, .string (kW 1), .bool (kO 1)]) w := by kernel_rfl
theorem verb_i1 (w : World) : (Instr.index 143 verbV (.int .i64 1)).run Tryz.prog w = .ok (.agg #[.int .i64 2, .string (kW 2), .bool (kO 2)]) w := by kernel_rfl
theorem verb_i2 (w : World) : (Instr.index 143 verbV (.int .i64 2)).run Tryz.prog w = .ok (.agg #[.int .i64 3, .string (kW 3), .bool (kO 3)]) w := by kernel_rfl
theorem verb_i3 (w : World) : (Instr.index 143 verbV (.int .i64 3)).run Tryz.prog w = .ok (.agg #[.int .i64 4, .string (kW 4), .bool (kO 4)]) w := by kernel_rfl
theorem verb_i4 (w : World) : (Instr.index 143 verbV (.int .i64 4)).run Tryz.prog w = .ok (.agg #[.int .i64 5, .string (kW 5), .bool (kO 5)]) w := by kernel_rfl
theorem verb_i5 (w : World) : (Instr.index 143 verbV (.int .i64 5)).run Tryz.prog w = .ok (.agg #[.int .i64 6, .string (kW 6), .bool (kO 6)]) w := by kernel_rfl
theorem verb_idx (j : Nat) (hj : j < 6) (w : World) : (Instr.index 143 verbV (.int .i64 (j : Int))).run Tryz.prog w = .ok (.agg #[.int .i64 ((j : Int) + 1), .string (kW ((j : Int) + 1)), .bool (kO ((j : Int) + 1))]) w := by
 have h : j = 0 ∨ j = 1 ∨ j = 2 ∨ j = 3 ∨ j = 4 ∨ j = 5 := by omega
 rcases h with rfl | rfl | rfl | rfl | rfl | rfl
 ·exact verb_i0 w
 ·exact verb_i1 w
 ·exact verb_i2 w
 ·exact verb_i3 w
 ·exact verb_i4 w
 ·exact verb_i5 w
end Go.Proofs.YtghimogdeijgdaaGreatDoor
