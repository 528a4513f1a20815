/- world.Next's values, count.Is. Whole ops and transactions written into rows of the call's own. count.Up at values. count.Up at bools. -/
import Derived.Test.YtjfbeeogiejopaaGreatDoorWorldTellsCardK30
import Derived.Test.YtjfbeeogiejopaaGreatDoorWorldTellsCardK29
import Derived.Test.YtjfbeeogiejopaaGreatDoorWorldTellsCardK10
import Derived.Test.YtjfbeeogiejopaaGreatDoorWorldTellsCardK12
set_option maxRecDepth 10000
set_option maxHeartbeats 16000000
set_option linter.unusedVariables false
set_option linter.unusedSimpArgs false
namespace Go.Proofs.YtjfbeeogiejopaaGreatDoor
open Go.RowKit
open Go.Lib hiding intOf
attribute [local go_sem ↓] Go.wp_at_zero Go.wp_at_succ
structure TrAt (w : World) (gc B nl : Nat) (xs : List SlA) : Prop where
 box : ∃ AV cV, Blk w gc 54 #[.slice AV nl cV] ∧ Row w B AV (xs.map slC)
 len : xs.length = nl
 rows : ∀ x ∈ xs, Row w B x.A (edgeC x.l)
 lt : gc < B
 few : ∀ x ∈ xs, x.l.length ≤ 1000
theorem TrAt.only {w w' : World} {gc B nl : Nat} {xs : List SlA} {S : List Nat} (h : TrAt w gc B nl xs) (ho : Only S w w') (hS : ∀ i ∈ S, B ≤ i) : TrAt w' gc B nl xs := by
 obtain ⟨⟨AV, cV, hb, hr⟩, h2, h3, h4, h5⟩ := h;exact ⟨⟨AV, cV, ho.blk hb (fun hm => by have := hS _ hm; omega), hr.only ho hS⟩, h2, fun x hx => (h3 x hx).only ho hS, h4, h5⟩
theorem nexttr_any (gc B nl : Nat) (xs : List SlA) (i : Nat) (x : SlA) (w : World) (hT : TrAt w gc B nl xs) (hx : xs[i]? = some x) :
  Calls Tryz.prog 63 #[.int .i64 (i : Int), .pointer (some ⟨gc, 0, none⟩)] w fun e w' => e = .returned (slC x) ∧ Only [] w w' := by
 obtain ⟨⟨AV, cV, hb, hr⟩, hl, -, -⟩ := hT;have hi := (List.getElem?_eq_some_iff.1 hx).1;obtain ⟨b, off, rfl, -, hbw, hc⟩ := hr.open_ (k := i) (by rw [List.length_map]; exact hi);have c0 := hc i _ (by rw [List.getElem?_map, hx]; rfl);have lB := hb.lt;have y0 := hb.at_ 0;simp at y0;have hi0 : (0 : Int) ≤ (i : Int) := Int.natCast_nonneg _;have hi1 : (i : Int) < (nl : Int) := by omega
 unfold slC at *;obtain ⟨l, A, cp⟩ := x;dsimp only at *;generalize l.length = m at *;clear hb hr hc hx hl;go_enter Tryz.func63, Tryz.ntmps63;go_wp2
 go_ret
 exact ⟨rfl, Only.refl [] w⟩
def isB (vals : List (List V2)) (l : List V2) : Bool := (l.zip vals).all fun p => decide (p.1 ∈ p.2)
theorem zip_take_succ {l : List V2} {vals : List (List V2)} {k : Nat} {x : V2} {vs : List V2} (hx : l[k]? = some x) (hv : vals[k]? = some vs) : (l.take (k + 1)).zip vals = (l.take k).zip vals ++ [(x, vs)] := by
 induction l generalizing vals k with
 | nil => simp at hx
 | cons y l ih =>
  cases vals with
  | nil => simp at hv
  | cons us vals =>
   cases k with
   | zero =>
    simp at hx hv;simp [hx, hv]
   | succ k =>
    simp only [List.getElem?_cons_succ] at hx hv;simp only [List.take_succ_cons, List.zip_cons_cons, List.cons_append];rw [ih hx hv]
theorem isB_take {vals : List (List V2)} {l : List V2} {k : Nat} {x : V2} {vs : List V2} (hx : l[k]? = some x) (hv : vals[k]? = some vs) : isB vals (l.take (k + 1)) = (isB vals (l.take k) && decide (x ∈ vs)) := by
 unfold isB;rw [zip_take_succ hx hv, List.all_append];simp
theorem isB_iff {vals : List (List V2)} {l : List V2} : isB vals l = true ↔ ∀ (i : Nat) (x : V2) (vs : List V2), l[i]? = some x → vals[i]? = some vs → x ∈ vs := by
 unfold isB;rw [List.all_eq_true]
 constructor
 ·intro h i x vs hx hv;have hm : (x, vs) ∈ l.zip vals := List.mem_of_getElem? (i := i) (by rw [List.getElem?_zip_eq_some]; exact ⟨hx, hv⟩)
  simpa using h _ hm
 ·intro h p hp;obtain ⟨i, hi⟩ := List.mem_iff_getElem?.1 hp;obtain ⟨h1, h2⟩ := List.getElem?_zip_eq_some.1 hi
  simpa using h i _ _ h1 h2
theorem isB_false {vals : List (List V2)} {l : List V2} {k : Nat} {x : V2} {vs : List V2} (hx : l[k]? = some x) (hv : vals[k]? = some vs) (h : ¬ x ∈ vs) : isB vals l = false := by
 cases hb : isB vals l with
 | false => rfl
 | true => exact absurd (isB_iff.1 hb k x vs hx hv) h
theorem vis_any (A : Option Addr) (m c Bl gc B : Nat) (l : List V2) (xs : List SlA) (w : World) (hg : Row w Bl A (edgeC l)) (hm : l.length = m) (hM : m ≤ 100000) (hT : TrAt w gc B m xs) :
  Calls Tryz.prog 64 #[.slice A m c, .func (.func 63) #[] #[.pointer (some ⟨gc, 0, none⟩)]] w fun e w' => e = .returned (.bool (isB (xs.map (fun x => x.l)) l)) ∧ Only [] w w' := by
 have HG := Hd hg;have HM := Hd hm;have HT := Hd hT;clear hg hm hT;go_enter Tryz.func64, Tryz.ntmps64;go_wp2_with fail
 go_loopw [9] (fun iv wr => ∃ k : Nat, iv = .int .i64 (k : Int) ∧ k ≤ m ∧ Hid (isB (xs.map (fun x => x.l)) (l.take k) = true) ∧ Hid (Only [] w wr)) (fun iv _ => m - (intOf iv).toNat)
 case atStart => exact ⟨0, rfl, by omega, Hd rfl, Hd (Only.refl [] w)⟩
 case round =>
  obtain ⟨k, rfl, hk, hn, hO⟩ := hrel
  by_cases hlt : k < m
  ·obtain ⟨u, hu⟩ : ∃ u, l[k]? = some u := ⟨_, List.getElem?_eq_getElem (by rw [HM.out]; exact hlt)⟩;obtain ⟨x, hx⟩ : ∃ x, xs[k]? = some x := ⟨_, List.getElem?_eq_getElem (by rw [HT.out.len]; exact hlt)⟩;have hxm := List.mem_of_getElem? hx;have hv : (xs.map (fun x => x.l))[k]? = some x.l := by rw [List.getElem?_map, hx]; rfl
   have HTK := Hd (isB_take (k := k) hu hv);have HF := Hd (fun h => isB_false hu hv h);have HNX := Hd (fun w' (O : Only [] w w') => nexttr_any gc B m xs k x w' (HT.out.only O (by simp)) hx);have HCO := Hd (fun w' (O : Only [] w w') => vcontains_any x.A x.l.length x.cp B x.l u w' ((HT.out.rows x hxm).only O (by simp)) rfl (Nat.le_trans (HT.out.few x hxm) (by omega)));unfold slC agV at *;obtain ⟨b, off, rfl, hbB, hbw, hc⟩ := (HG.out.only hO.out (by simp)).open_ (k := k * 2) (by rw [edgeC_len, HM.out]; omega);have hE := edgeC_get l k u hu;have c0 := hc _ _ hE.1;have c1 := hc _ _ hE.2;rw [← Nat.add_assoc] at c1;have h01 : (k : Int) < (m : Int) := by omega
   have hk0 : (0 : Int) ≤ (k : Int) := Int.natCast_nonneg _;have hwk : IntKind.i64.wrap ((k : Int) + 1) = (k : Int) + 1 := IntWalk.i64_in _ (by omega);obtain ⟨u1, u2⟩ := u;dsimp only at *;clear hc hE hu hx hv hxm;go_upto_region 4 with (fail)
   have O4 : Only [] wr (wr.alloc (.cells #[.int .i64 u1, .int .i64 u2] 38)) := (Only.refl [] wr).alloc _;have HB4 := Hd (Blk.made wr 38 #[.int .i64 u1, .int .i64 u2]);have HO4 := Hd (hO.out.trans O4);clear O4 c0 c1 hO;generalize (wr.alloc (.cells #[.int .i64 u1, .int .i64 u2] 38)) = w4 at *;generalize wr.heap.size = g4 at *;obtain ⟨d, hd⟩ : ∃ d, d = decide ((u1, u2) ∈ x.l) := ⟨_, rfl⟩;rw [← hd] at HCO HTK;have HD := Hd hd;clear hd;refine wp_region_noPanic ?_;refine wp_region_timed (F := [⟨[], [], fun w' => Only [] w4 w'⟩]) (by kernel_rfl) (th1 ((Only.refl [] w4).drew)) ?_;have OW : Only [] w4 w4.drew := (Only.refl [] w4).drew;generalize w4.drew = wz at *;refine tp (i := 0) ?_;(try simp only [Act.put, tdy]);refine tp (i := 1) ?_;(try simp only [Act.put, tdy]);refine trd (i := 3) (v := ?_) 0 ?_ ?_;rotate_left
   ·(intro wq hSw; obtain ⟨lb_B, y0, y1⟩ := Bk2 (hSw.blk HB4.out (by simp)); simp at y0 y1; clear hSw; go_simp; try with_reducible rfl)
   (try simp only [Act.put, tdy]);refine tst (i := 2) fun K hK => ?_;go_simp;refine (HNX.out _ (HO4.out.trans OW)).mono ?_;rintro e w5 ⟨rfl, O5⟩;have OW1 := OW.trans O5;clear O5;refine hK.out _ _ (th1 (OW1)) ?_;clear hK K;(try simp only [Act.put, tdy]);refine tst (i := 4) fun K hK => ?_;go_simp;refine (HCO.out _ (HO4.out.trans OW1)).mono ?_;rintro e w6 ⟨rfl, O6⟩;have OW2 := OW1.trans O6;clear O6;refine hK.out _ _ (th1 (OW2)) ?_;clear hK K;(try simp only [Act.put, tdy]);refine tp (i := 5) ?_;(try simp only [Act.put, tdy]);refine timed_done (by kernel_rfl) ?_ _;refine NoPanic.normal ?_;have HO6 := Hd (HO4.out.trans OW2);clear OW OW1 OW2 HO4 HB4 HNX HCO
   cases d with
   | true =>
    have HN := Hd (HTK.out.trans (by rw [hn.out]));clear hn HTK HF;go_wp2
    go_roundw
    case rel => exact ⟨k + 1, by go_num, by omega, HN, HO6⟩
    case measure => simp [intOf]; omega
   | false =>
    have HE := Hd (HF.out (of_decide_eq_false HD.out.symm));clear hn HTK HF;go_wp2
    go_ret
    exact ⟨by rw [HE.out]; rfl, HO6.out⟩
  ·have hkm : k = m := by omega
   subst hkm;have hd2 : decide ((k : Int) < (k : Int)) = false := by simp
   rw [List.take_of_length_le (by rw [HM.out]; omega)] at hn;go_wp2
   go_ret
   exact ⟨by rw [hn.out]; rfl, hO.out⟩
end Go.Proofs.YtjfbeeogiejopaaGreatDoor

set_option linter.unusedVariables false
set_option linter.unusedSimpArgs false
namespace Go.Proofs.YtjfbeeogiejopaaGreatDoor
open Go.RowKit
section
variable {w : World} {base : Nat} {e : TypeId} {size : Nat} {v : Value} {n : Nat} {xs : List Value} {g : Nat}
theorem own_there (h : w.ownsRow base e size v n xs) (hg : v.ownBlock = some g) {o k : Nat} (hk : o + k ≤ xs.length) : w.there g o k := fun j hj => by
 have := own_cell h hg (List.getElem?_eq_getElem (i := o + j) (by omega));exact ⟨by rw [this.1]; rfl, this.2⟩
theorem own_set2 (h : w.ownsRow base e size v n xs) (hg : v.ownBlock = some g) {o : Nat} (hk : o + 2 ≤ xs.length) (a b : Value) :
  (w.setCells g o [a, b]).ownsRow base e size v n ((xs.set o a).set (o + 1) b) :=
 own_set (own_set h hg (by omega) a) hg (by rw [List.length_set]; omega) b
end
end Go.Proofs.YtjfbeeogiejopaaGreatDoor

set_option linter.unusedVariables false
set_option linter.unusedSimpArgs false
namespace Go.Proofs.YtjfbeeogiejopaaGreatDoor
open Go.RowKit
open Go.Lib hiding intOf
attribute [local go_sem ↓] Go.wp_at_zero Go.wp_at_succ
theorem vals_set (L : List V2) (i : Nat) (a b : Int) : ((edgeC L).set (i * 2) (.int .i64 a)).set (i * 2 + 1) (.int .i64 b) = edgeC (L.set i (a, b)) := by
 induction L generalizing i with
 | nil => simp [edgeC]
 | cons x L ih =>
  cases i with
  | zero => simp [edgeC]
  | succ i =>
   have := ih i;simp only [edgeC, List.flatMap_cons, List.cons_append, List.nil_append, List.set_cons_succ] at this ⊢;rw [show (i + 1) * 2 = i * 2 + 2 by omega, List.set_cons_succ, List.set_cons_succ, List.set_cons_succ, List.set_cons_succ, this]
theorem take_set {α : Type} {l H : List α} {p : Nat} {u y : α} (h : l[p]? = some u) : (l.take (p + 1) ++ H).set p y = l.take p ++ y :: H := by
 have hp := (List.getElem?_eq_some_iff.1 h).1;have hl : (l.take p).length = p := by rw [List.length_take]; omega
 rw [List.take_add_one, h, List.append_assoc, List.set_append_right _ _ (by omega), hl, Nat.sub_self]
 rfl
theorem nextOf_some {α : Type} [BEq α] {vs : List α} {x y : α} (h : vs[vs.idxOf x + 1]? = some y) : nextOf vs x = some y := h
theorem idxE_in {α : Type} [BEq α] [LawfulBEq α] {l : List α} {x : α} (h : x ∈ l) : idxE l x = (l.idxOf x : Int) := by
 unfold idxE;rw [if_pos (List.idxOf_lt_length_of_mem h)]
theorem heads_drop {α : Type} {d : α} {vals : List (List α)} {p : Nat} {vs : List α} (h : vals[p]? = some vs) : headsL d (vals.drop p) = vs.headD d :: headsL d (vals.drop (p + 1)) := by
 rw [drop_cons h]
 rfl
theorem vup_any (A : Option Addr) (m c Bl gc B : Nat) (l : List V2) (xs : List SlA) (w : World) (hg : Row w Bl A (edgeC l)) (hm : l.length = m) (hM : m ≤ 100000) (hA : A = none → m = 0 ∧ c = 0) (hT : TrAt w gc B m xs) (hB : B ≤ w.heap.size) (hIs : isB (xs.map (fun x => x.l)) l = true) :
  Calls Tryz.prog 65 #[.slice A m c, .func (.func 63) #[] #[.pointer (some ⟨gc, 0, none⟩)]] w fun e w' => ∃ V, (e = .returned (.tuple #[V, .bool (upL (0, 0) (xs.map (fun x => x.l)) l).isSome]) ∧ (∀ ys, upL (0, 0) (xs.map (fun x => x.l)) l = some ys → w'.ownsRow w.heap.size 38 2 V m (edgeC ys)) ∧ (upL (0, 0) (xs.map (fun x => x.l)) l = none → V = .slice none 0 0)) ∧ Only [] w w' := by
 have HG := Hd hg;have HM := Hd hm;have HT := Hd hT;have HIS := Hd (isB_iff.1 hIs);have HCL := Hd (fun w' (O : Only [] w w') => vclone_any A m c Bl l w' (hg.only O (by simp)) hm hM hA);have hwm : IntKind.i64.wrap ((m : Int) - 1) = (m : Int) - 1 := IntWalk.i64_in _ (by omega);have HVL : Hid ((xs.map (fun x => x.l)).length = m) := Hd (by rw [List.length_map]; exact hT.len);have HXS : Hid (∀ (p : Nat) (x : SlA), xs[p]? = some x → (xs.map (fun x => x.l))[p]? = some x.l) := Hd (fun p (x : SlA) h => by rw [List.getElem?_map, h]; rfl);generalize xs.map (fun x => x.l) = vals at *;obtain ⟨U, hU⟩ : ∃ U, upL (0, 0) vals l = U := ⟨_, rfl⟩;rw [hU];have HU := Hd hU;clear hg hm hT hIs hA hU;go_enter Tryz.func65, Tryz.ntmps65;go_wp2_with fail
 refine (HCL.out _ (Only.refl [] w)).mono ?_;rintro e w1 ⟨V1, ⟨rfl, hv1⟩, O1⟩;obtain ⟨AN, cN, rfl, -, -, -, -⟩ := own_row hv1;have HV1 := Hd hv1;have HO1 := Hd O1;clear hv1 O1 HCL;go_wp2_with fail
 go_loopw [7] (fun iv wr => ∃ (q : Nat) (i : Int), iv = .int .i64 i ∧ i + 1 = (q : Int) ∧ q ≤ m ∧ Hid (upL (0, 0) (vals.drop q) (l.drop q) = none) ∧ Hid (wr.ownsRow w.heap.size 38 2 (.slice AN m cN) m (edgeC (l.take q ++ headsL (0, 0) (vals.drop q)))) ∧ Hid (Only [] w wr)) (fun iv _ => (intOf iv + 1).toNat)
 case atStart =>
  refine ⟨m, (m : Int) - 1, rfl, by omega, Nat.le_refl _, Hd (upL_end (by rw [HVL.out]; exact Nat.le_refl _)), Hd ?_, HO1⟩;rw [List.drop_of_length_le (by rw [HVL.out]; exact Nat.le_refl _), List.take_of_length_le (by rw [HM.out]; exact Nat.le_refl _)]
  simpa [headsL] using HV1.out
 case round =>
  obtain ⟨q, i, rfl, hiq, hq, hn, hV, hO⟩ := hrel;clear HV1 HO1 hwm
  cases q with
  | zero =>
   have hi : i = -1 := by omega
   subst hi;have HE : Hid (U = none) := Hd (HU.out.symm.trans hn.out);go_wp2
   go_ret2
   exact ⟨_, ⟨(by rw [HE.out]; rfl), (fun ys h => by rw [HE.out] at h; cases h), fun _ => rfl⟩, hO.out⟩
  | succ p =>
   have hi : i = (p : Int) := by omega
   subst hi;clear hiq;have hpm : p < m := by omega
   obtain ⟨u, hu⟩ : ∃ u, l[p]? = some u := ⟨_, List.getElem?_eq_getElem (by rw [HM.out]; exact hpm)⟩;obtain ⟨x, hx⟩ : ∃ x, xs[p]? = some x := ⟨_, List.getElem?_eq_getElem (by rw [HT.out.len]; exact hpm)⟩;have hxm := List.mem_of_getElem? hx;have hv := HXS.out p x hx;have hin := HIS.out p u x.l hu hv;have hidx := List.idxOf_lt_length_of_mem hin;have hfew := HT.out.few x hxm;have HNX := Hd (fun w' (O : Only [] w w') => nexttr_any gc B m xs p x w' (HT.out.only O (by simp)) hx);have HIX := Hd (fun w' (O : Only [] w w') => vindex_any x.A x.l.length x.cp B x.l u w' ((HT.out.rows x hxm).only O (by simp)) rfl (by omega));rw [idxE_in hin] at HIX;have HXR := Hd (fun w' (O : Only [] w w') => (HT.out.rows x hxm).only O (by simp));have HAT := Hd (fun y h => upL_at (d := (0, 0)) (y := y) hv hu hn.out (nextOf_some h));have HON := Hd (fun h => upL_on (d := (0, 0)) hv hu hn.out h);have HHD := Hd (heads_drop (d := ((0, 0) : V2)) hv);have HST := Hd (fun (H : List V2) (y : V2) => take_set (H := H) (y := y) hu);unfold nextOf at HON;unfold slC agV at *;obtain ⟨b, off, rfl, hbB, hbw, hc⟩ := (HG.out.only hO.out (by simp)).open_ (k := p * 2) (by rw [edgeC_len, HM.out]; omega);have hE := edgeC_get l p u hu;have c0 := hc _ _ hE.1;have c1 := hc _ _ hE.2;rw [← Nat.add_assoc] at c1;have hp0 : (0 : Int) ≤ (p : Int) := Int.natCast_nonneg _;have hp1 : (p : Int) < (m : Int) := by omega
   have hwp : IntKind.i64.wrap ((p : Int) - 1) = (p : Int) - 1 := IntWalk.i64_in _ (by omega);obtain ⟨u1, u2⟩ := u;obtain ⟨xl, xA, xc⟩ := x;dsimp only at *;obtain ⟨a, ha⟩ : ∃ a, a = xl.idxOf (u1, u2) + 1 := ⟨_, rfl⟩;have hwa : IntKind.i64.wrap ((xl.idxOf (u1, u2) : Int) + 1) = (xl.idxOf (u1, u2) : Int) + 1 := IntWalk.i64_in _ (by omega);generalize xl.idxOf (u1, u2) = j at *;subst ha;clear hc hE hu hx hv hxm hin hn;go_wp2_with fail
   refine (HNX.out _ hO.out).mono ?_;rintro e w2 ⟨rfl, O2⟩;have HO2 := Hd (hO.out.trans O2);have HV2 := Hd (own_only hV.out O2 (by simp));have c0 := (O2.cell (p := ⟨b, off + p * 2, none⟩) hbw (by simp)).trans c0;have c1 := (O2.cell (p := ⟨b, off + p * 2 + 1, none⟩) hbw (by simp)).trans c1;have hbw2 : b < w2.heap.size := by have := O2.size; omega
   clear O2 HNX hO hV hbw;go_wp2_with fail
   refine (HIX.out _ HO2.out).mono ?_;rintro e w3 ⟨rfl, O3⟩;have HO3 := Hd (HO2.out.trans O3);have HV3 := Hd (own_only HV2.out O3 (by simp));clear O3 HIX HO2 HV2 c0 c1 hbw2;obtain ⟨gN, rfl⟩ : ∃ gN, AN = some ⟨gN, 0, none⟩ := by
    rcases HV3.out.2 with ⟨e, -⟩ | ⟨g1, cp1, cu1, e, -⟩
    ·injection e with e1 e2 e3;omega
    ·injection e with e1 e2 e3;exact ⟨g1, e1⟩
   have hgN := HV3.out.lt gN rfl;have hlen : (edgeC (l.take (p + 1) ++ headsL (0, 0) (vals.drop (p + 1)))).length = m * 2 := HV3.out.1;have hol : p * 2 + 2 ≤ (edgeC (l.take (p + 1) ++ headsL (0, 0) (vals.drop (p + 1)))).length := by rw [hlen]; omega
   have h3 := HXR.out _ HO3.out;clear HXR;have ha0 : (0 : Int) ≤ (j : Int) := Int.natCast_nonneg _;have ha00 : (0 : Int) ≤ (j : Int) + 1 := by omega
   by_cases hlt : j + 1 < xl.length
   ·obtain ⟨y, hy⟩ : ∃ y, xl[j + 1]? = some y := ⟨_, List.getElem?_eq_getElem hlt⟩;have HE := Hd (HU.out.symm.trans (HAT.out y hy));have HS := Hd (HST.out (headsL (0, 0) (vals.drop (p + 1))) y);have hd1 : decide ((j : Int) + 1 < (xl.length : Int)) = true := decide_eq_true (by omega);have ha1 : (j : Int) + 1 < (xl.length : Int) := by omega
    obtain ⟨bx, ox, rfl, -, hbx, hcx⟩ := h3.open_ (k := (j + 1) * 2) (by rw [edgeC_len]; omega);have hE := edgeC_get xl (j + 1) y hy;have z0 := hcx _ _ hE.1;have z1 := hcx _ _ hE.2;rw [← Nat.add_assoc] at z1;obtain ⟨y1, y2⟩ := y;dsimp only at z0 z1;generalize xl.length = xn at *;clear hcx hE h3 hy HON HHD HST HAT;go_wp2_with (refine wpList_store_mid rfl 38 (.tmp 39) (.tmp 38) rfl gN (p * 2) #[.int .i64 y1, .int .i64 y2] rfl rfl (own_there HV3.out rfl hol) (by kernel_rfl) (by kernel_rfl) ?_)
    have OD : Only [gN] w3 (w3.setCells gN (p * 2) [.int .i64 y1, .int .i64 y2]) := setCells_only gN _ _ _ _ _ (Only.refl _ _) (fun _ => by simp);have h9 := own_set2 HV3.out rfl hol (.int .i64 y1) (.int .i64 y2);rw [vals_set, HS.out] at h9;have HV9 := Hd h9;have HO9 := Hd (HO3.out.step OD (fun i hi hl => by simp at hi; omega));clear OD h9 HS hol hlen HO3 z0 z1 hbx;go_wp2
    go_ret2
    exact ⟨⟨_, (by rw [HE.out]; rfl), (fun ys h => by rw [HE.out] at h; cases h; exact HV9.out), fun h => by rw [HE.out] at h; cases h⟩, HO9.out⟩
   ·have hnone : xl[j + 1]? = none := List.getElem?_eq_none (by omega);have HN2 := Hd (HON.out hnone);obtain ⟨y, hy⟩ : ∃ y, xl[0]? = some y := ⟨_, List.getElem?_eq_getElem (by omega)⟩;have hyd : xl.headD (0, 0) = y := by
     cases xl with
     | nil => cases hy
     | cons z r => simpa using hy
    have HS := Hd ((HST.out (headsL (0, 0) (vals.drop (p + 1))) y).trans (show l.take p ++ y :: headsL (0, 0) (vals.drop (p + 1)) = l.take p ++ headsL (0, 0) (vals.drop p) by rw [HHD.out, hyd]));have hd1 : decide ((j : Int) + 1 < (xl.length : Int)) = false := decide_eq_false (by omega);have hx0 : (0 : Int) < (xl.length : Int) := by omega
    obtain ⟨bx, ox, rfl, -, hbx, hcx⟩ := h3.open_ (k := 0) (by rw [edgeC_len]; omega);have hE := edgeC_get xl 0 y hy;have z0 := hcx _ _ hE.1;have z1 := hcx _ _ hE.2;simp only [Nat.zero_mul, Nat.zero_add, Nat.add_zero] at z0 z1;obtain ⟨y1, y2⟩ := y;dsimp only at z0 z1;generalize xl.length = xn at *;clear hcx hE h3 hy hyd HON HHD HST HAT hnone;go_wp2_with (refine wpList_store_mid rfl 38 (.tmp 46) (.tmp 45) rfl gN (p * 2) #[.int .i64 y1, .int .i64 y2] rfl rfl (own_there HV3.out rfl hol) (by kernel_rfl) (by kernel_rfl) ?_)
    have OD : Only [gN] w3 (w3.setCells gN (p * 2) [.int .i64 y1, .int .i64 y2]) := setCells_only gN _ _ _ _ _ (Only.refl _ _) (fun _ => by simp);have h9 := own_set2 HV3.out rfl hol (.int .i64 y1) (.int .i64 y2);rw [vals_set, HS.out] at h9;have HV9 := Hd h9;have HO9 := Hd (HO3.out.step OD (fun i hi hl => by simp at hi; omega));clear OD h9 HS hol hlen HO3 z0 z1 hbx HV3;generalize w3.setCells gN (p * 2) [.int .i64 y1, .int .i64 y2] = w9 at *;go_wp2
    go_roundw
    case rel => exact ⟨p, (p : Int) - 1, by go_num, by omega, by omega, HN2, HV9, HO9⟩
    case measure => simp [intOf]
end Go.Proofs.YtjfbeeogiejopaaGreatDoor

set_option linter.unusedVariables false
set_option linter.unusedSimpArgs false
namespace Go.Proofs.YtjfbeeogiejopaaGreatDoor
open Go.RowKit
open Go.Lib hiding intOf
attribute [local go_sem ↓] Go.wp_at_zero Go.wp_at_succ
def twoB : List Bool := [false, true]
theorem rep_get {m p : Nat} (h : p < m) : (List.replicate m twoB)[p]? = some twoB := by simp [h]
theorem nextb_any (i : Int) (w : World) : Calls Tryz.prog 68 #[.int .i64 i] w fun e w' => ∃ A', (e = .returned (.slice A' 2 2) ∧ Row w' w'.heap.size A' (twoB.map Value.bool)) ∧ Only [] w w' := by
 have HO := Hd ((Only.refl [] w).alloc (.cells #[.bool false, .bool true] 4));have HR := Hd (row_lit w 4 #[.bool false, .bool true]);go_enter Tryz.func68, Tryz.ntmps68;go_wp2
 go_ret
 exact ⟨⟨_, rfl, by rw [World.size_alloc]; exact HR.out⟩, HO.out⟩
theorem upB_next {m p : Nat} {l : List Bool} (h : p < m) (hu : l[p]? = some false) (hn : upL false ((List.replicate m twoB).drop (p + 1)) (l.drop (p + 1)) = none) :
  upL false (List.replicate m twoB) l = some (l.take p ++ true :: headsL false ((List.replicate m twoB).drop (p + 1))) := upL_at (rep_get h) hu hn rfl
theorem upB_on {m p : Nat} {l : List Bool} (h : p < m) (hu : l[p]? = some true) (hn : upL false ((List.replicate m twoB).drop (p + 1)) (l.drop (p + 1)) = none) :
  upL false ((List.replicate m twoB).drop p) (l.drop p) = none := upL_on (rep_get h) hu hn rfl
theorem bup_any (A : Option Addr) (m c Bl : Nat) (l : List Bool) (w : World) (hg : Row w Bl A (l.map Value.bool)) (hm : l.length = m) (hM : m ≤ 100000) (hA : A = none → m = 0 ∧ c = 0) :
  Calls Tryz.prog 67 #[.slice A m c, .func (.func 68) #[] #[]] w fun e w' => ∃ V, (e = .returned (.tuple #[V, .bool (upL false (List.replicate m twoB) l).isSome]) ∧ (∀ ys, upL false (List.replicate m twoB) l = some ys → w'.ownsRow w.heap.size 4 1 V m (ys.map Value.bool)) ∧ (upL false (List.replicate m twoB) l = none → V = .slice none 0 0)) ∧ Only [] w w' := by
 have HG := Hd hg;have HM := Hd hm;have HCL := Hd (fun w' (O : Only [] w w') => bclone_any A m c Bl l w' (hg.only O (by simp)) hm hM hA);have hwm : IntKind.i64.wrap ((m : Int) - 1) = (m : Int) - 1 := IntWalk.i64_in _ (by omega);have HVL : Hid ((List.replicate m twoB).length = m) := Hd (by simp);have HUN := Hd (fun (p : Nat) h hu hn => upB_next (m := m) (p := p) (l := l) h hu hn);have HUO := Hd (fun (p : Nat) h hu hn => upB_on (m := m) (p := p) (l := l) h hu hn);have HHD := Hd (fun (p : Nat) (h : p < m) => heads_drop (d := false) (rep_get h));have HNX := Hd (fun i w' => nextb_any i w');generalize List.replicate m twoB = vals at *;obtain ⟨U, hU⟩ : ∃ U, upL false vals l = U := ⟨_, rfl⟩;rw [hU];have HU := Hd hU;clear hg hm hA hU;go_enter Tryz.func67, Tryz.ntmps67;go_wp2_with fail
 refine (HCL.out _ (Only.refl [] w)).mono ?_;rintro e w1 ⟨V1, ⟨rfl, hv1⟩, O1⟩;obtain ⟨AN, cN, rfl, -, -, -, -⟩ := own_row hv1;have HV1 := Hd hv1;have HO1 := Hd O1;clear hv1 O1 HCL;go_wp2_with fail
 go_loopw [7] (fun iv wr => ∃ (q : Nat) (i : Int), iv = .int .i64 i ∧ i + 1 = (q : Int) ∧ q ≤ m ∧ Hid (upL false (vals.drop q) (l.drop q) = none) ∧ Hid (wr.ownsRow w.heap.size 4 1 (.slice AN m cN) m ((l.take q ++ headsL false (vals.drop q)).map Value.bool)) ∧ Hid (Only [] w wr)) (fun iv _ => (intOf iv + 1).toNat)
 case atStart =>
  refine ⟨m, (m : Int) - 1, rfl, by omega, Nat.le_refl _, Hd (upL_end (by rw [HVL.out]; exact Nat.le_refl _)), Hd ?_, HO1⟩;rw [List.drop_of_length_le (by rw [HVL.out]; exact Nat.le_refl _), List.take_of_length_le (by rw [HM.out]; exact Nat.le_refl _)]
  simpa [headsL] using HV1.out
 case round =>
  obtain ⟨q, i, rfl, hiq, hq, hn, hV, hO⟩ := hrel;clear HV1 HO1 hwm
  cases q with
  | zero =>
   have hi : i = -1 := by omega
   subst hi;have HE : Hid (U = none) := Hd (HU.out.symm.trans hn.out);go_wp2
   go_ret2
   exact ⟨_, ⟨(by rw [HE.out]; rfl), (fun ys h => by rw [HE.out] at h; cases h), fun _ => rfl⟩, hO.out⟩
  | succ p =>
   have hi : i = (p : Int) := by omega
   subst hi;clear hiq;have hpm : p < m := by omega
   obtain ⟨u, hu⟩ : ∃ u, l[p]? = some u := ⟨_, List.getElem?_eq_getElem (by rw [HM.out]; exact hpm)⟩;have HST := Hd (fun (H : List Bool) (y : Bool) => take_set (H := H) (y := y) hu);obtain ⟨b, off, rfl, hbB, hbw, hc⟩ := (HG.out.only hO.out (by simp)).open_ (k := p) (by rw [List.length_map, HM.out]; omega);have c0 := hc p _ (by rw [List.getElem?_map, hu]; rfl);have hp0 : (0 : Int) ≤ (p : Int) := Int.natCast_nonneg _;have hp1 : (p : Int) < (m : Int) := by omega
   have hwp : IntKind.i64.wrap ((p : Int) - 1) = (p : Int) - 1 := IntWalk.i64_in _ (by omega);have HUu := Hd hu;clear hc hu;go_wp2_with fail
   refine (HNX.out _ _).mono ?_;rintro e w2 ⟨A2, ⟨rfl, hr2⟩, O2⟩;have HIX := Hd (fun w' (O : Only [] w2 w') => bindex_any A2 2 2 _ twoB u w' (hr2.only O (by simp)) rfl (by omega));have HR2 := Hd hr2;have HO2 := Hd (hO.out.trans O2);have HV2 := Hd (own_only hV.out O2 (by simp));have c0 := (O2.cell (p := ⟨b, off + p, none⟩) hbw (by simp)).trans c0;have hbw2 : b < w2.heap.size := by have := O2.size; omega
   clear O2 HNX hO hV hbw hr2;go_wp2_with fail
   refine (HIX.out _ (Only.refl [] w2)).mono ?_;rintro e w3 ⟨rfl, O3⟩;have HO3 := Hd (HO2.out.trans O3);have HV3 := Hd (own_only HV2.out O3 (by simp));have h3 := HR2.out.only O3 (by simp);clear O3 HIX HO2 HV2 c0 hbw2 HR2;obtain ⟨gN, rfl⟩ : ∃ gN, AN = some ⟨gN, 0, none⟩ := by
    rcases HV3.out.2 with ⟨e, -⟩ | ⟨g1, cp1, cu1, e, -⟩
    ·injection e with e1 e2 e3;omega
    ·injection e with e1 e2 e3;exact ⟨g1, e1⟩
   have hgN := HV3.out.lt gN rfl;have hlen : ((l.take (p + 1) ++ headsL false (vals.drop (p + 1))).map Value.bool).length = m := by have := HV3.out.1; rw [Nat.mul_one] at this; exact this
   have hol : p < ((l.take (p + 1) ++ headsL false (vals.drop (p + 1))).map Value.bool).length := by rw [hlen]; omega
   obtain ⟨zz, hzz⟩ : ∃ zz, ((l.take (p + 1) ++ headsL false (vals.drop (p + 1))).map Value.bool)[p]? = some zz := ⟨_, List.getElem?_eq_getElem hol⟩;obtain ⟨e0, f0⟩ := own_cell HV3.out rfl hzz;clear hzz;obtain ⟨bx, ox, rfl, -, hbx, hcx⟩ := h3.open_ (k := 0) (by simp [twoB])
   cases u with
   | false =>
    rw [show idxE twoB false = ((0 : Nat) : Int) from by kernel_rfl];have HE := Hd (HU.out.symm.trans (HUN.out p hpm HUu.out hn.out));have h9 := own_set HV3.out rfl hol (.bool true);rw [← List.map_set, HST.out] at h9;have z0 := hcx 1 (.bool true) rfl;clear hcx h3 HUN HUO HHD HST;have HO9 := Hd (HO3.out.step ((Only.refl [gN] w3).put (p := ⟨gN, p, none⟩) (fun _ => by simp) (.bool true)) (fun i hi hl => by simp at hi; omega));have HV9 := Hd h9;clear h9 hol hlen HO3 HV3;go_wp2
    go_ret2
    exact ⟨_, ⟨(by rw [HE.out]; rfl), (fun ys h => by rw [HE.out] at h; cases h; exact HV9.out), fun h => by rw [HE.out] at h; cases h⟩, HO9.out⟩
   | true =>
    rw [show idxE twoB true = ((1 : Nat) : Int) from by kernel_rfl];have HN2 := Hd (HUO.out p hpm HUu.out hn.out);have h9 := own_set HV3.out rfl hol (.bool false);rw [← List.map_set, HST.out, show l.take p ++ false :: headsL false (vals.drop (p + 1)) = l.take p ++ headsL false (vals.drop p) by rw [HHD.out p hpm]; rfl] at h9;have z0 := hcx 0 (.bool false) rfl;rw [Nat.add_zero] at z0;clear hcx h3 HUN HUO HHD HST;have HO9 := Hd (HO3.out.step ((Only.refl [gN] w3).put (p := ⟨gN, p, none⟩) (fun _ => by simp) (.bool false)) (fun i hi hl => by simp at hi; omega));have HV9 := Hd h9;clear h9 hol hlen HO3 HV3;go_wp2
    go_roundw
    case rel => exact ⟨p, (p : Int) - 1, by go_num, by omega, by omega, HN2, HV9, HO9⟩
    case measure => simp [intOf]
end Go.Proofs.YtjfbeeogiejopaaGreatDoor
