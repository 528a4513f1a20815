/- Parts. -/
import Derived.Test.YtghimogdeijgdaaGreatDoorLaw17AllK35
import Derived.Lib.QuietBelow
set_option maxRecDepth 10000
set_option maxHeartbeats 16000000
set_option linter.unusedVariables false
set_option linter.unusedSimpArgs false
namespace Go.Proofs.YtghimogdeijgdaaGreatDoor
open Go.RowKit
open Go.Lib hiding intOf
attribute [local go_sem ↓] Go.wp_at_zero Go.wp_at_succ
theorem rank_succ {l : List Tx} {k : Nat} {t : Tx} (h : l[k]? = some t) : rankL l (k + 1) = rankL l k + if t.f = 3 then 1 else 0 := by
 unfold rankL;rw [which_take h, List.length_append];unfold infoB
 by_cases hf : t.f = 3 <;> simp [hf]
theorem rank_le (l : List Tx) (k : Nat) : rankL l k ≤ l.length := by
 unfold rankL;exact Nat.le_trans (which_le _ _) (by rw [List.length_take]; omega)
theorem rcommits16_any (A0 A1 A2 Ac Al : Option Addr) (n0 n1 n2 nc nl c0 c1 c2 cc cl B Bc : Nat) (h : Hst) (c : List Bool) (w : World) (hg : HIn w B A0 A1 A2 n0 n1 n2 h) (hc : Row w Bc Ac (c.map Value.bool)) (hcl : c.length = nc) (hci : (whichL infoB h.l).length = nc) :
  Calls Tryz.prog 46 #[hval A0 A1 A2 n0 n1 n2 c0 c1 c2, .agg #[.slice Ac nc cc, .slice Al nl cl]] w fun e w' => ∃ V, (e = .returned V ∧ w'.ownsRow w.heap.size 4 1 V n2 ((comL h.l c).map Value.bool)) ∧ Only [] w w' := by
 obtain ⟨i0, hi, hz0, hz1, hz2⟩ := info_parts info_bl;have HL := Hd hg.at_.r2;have HN2 := Hd hg.n2;have HCR := Hd hc;have HCL := Hd hcl;have HCI := Hd hci;have hn2 : n2 ≤ 1000 := by have := hg.sm.nl; rw [hg.n2] at this; exact this
 unfold hval;clear hg hc hcl hci;have HO1 := Hd ((((Only.refl [] w).alloc (.cells #[.slice A0 n0 c0, .slice A1 n1 c1, .slice A2 n2 c2] 25)).alloc (.cells #[.slice Ac nc cc, .slice Al nl cl] 29)).alloc (.cells #[] 4));have HB1 := Hd (((Blk.made w 25 #[.slice A0 n0 c0, .slice A1 n1 c1, .slice A2 n2 c2]).alloc (.cells #[.slice Ac nc cc, .slice Al nl cl] 29)).alloc (.cells #[] 4));have HW1 := Hd ((Blk.made (w.alloc (.cells #[.slice A0 n0 c0, .slice A1 n1 c1, .slice A2 n2 c2] 25)) 29 #[.slice Ac nc cc, .slice Al nl cl]).alloc (.cells #[] 4));have HV1 := Hd (World.ownsRow_lit (base := w.heap.size) ((w.alloc (.cells #[.slice A0 n0 c0, .slice A1 n1 c1, .slice A2 n2 c2] 25)).alloc (.cells #[.slice Ac nc cc, .slice Al nl cl] 29)) (e := 4) (size := 1) #[] 0 (by simp; omega) (by unfold maxLen; omega) rfl);simp only [World.size_alloc] at HW1 HV1;go_enter Tryz.func46, Tryz.ntmps46;go_upto_region 2 with (fail)
 generalize (((w.alloc (.cells #[.slice A0 n0 c0, .slice A1 n1 c1, .slice A2 n2 c2] 25)).alloc (.cells #[.slice Ac nc cc, .slice Al nl cl] 29)).alloc (.cells #[] 4)) = w1 at *;generalize hgl : w.heap.size + 1 + 1 = gl at *;generalize hgw : w.heap.size + 1 = gw at *;generalize hgg : w.heap.size = g at *;go_wp2_with fail
 go_loopw [5, 6, 7] (fun V nv iv wr => ∃ k : Nat, nv = .int .i64 ((rankL h.l k : Nat) : Int) ∧ iv = .int .i64 (k : Int) ∧ k ≤ n2 ∧ Hid (wr.ownsRow g 4 1 V k (((comL h.l c).take k).map Value.bool)) ∧ Hid (Blk wr g 25 #[.slice A0 n0 c0, .slice A1 n1 c1, .slice A2 n2 c2]) ∧ Hid (Blk wr gw 29 #[.slice Ac nc cc, .slice Al nl cl]) ∧ Hid (Only [] w wr)) (fun _ _ iv _ => n2 - (intOf iv).toNat)
 case atStart => exact ⟨0, by simp [rankL, whichL], rfl, by omega, HV1, HB1, HW1, HO1⟩
 case round =>
  obtain ⟨k, rfl, rfl, hk, hV, hB, hW, hO⟩ := hrel;clear HV1 HB1 HW1 HO1
  by_cases hlt : k < n2
  ·obtain ⟨t, ht⟩ : ∃ t, h.l[k]? = some t := ⟨_, List.getElem?_eq_getElem (by rw [HN2.out]; exact hlt)⟩;obtain ⟨bl, off, A', cp, rfl, -, hbw, hT, -⟩ := HL.out.at_ ht;have a1 := (hT.only hO.out (by omega) (by simp)).c1;have hRS := Hd (rank_succ ht);have hrl := rank_le h.l k;rw [HN2.out] at hrl;have hCG := Hd (comL_get (c := c) ht);have hbr : bl < wr.heap.size := by have := hO.out.size; omega
   have h01 : (k : Int) < (n2 : Int) := by omega
   have hk0 : (0 : Int) ≤ (k : Int) := Int.natCast_nonneg _;have hwk : IntKind.i64.wrap ((k : Int) + 1) = (k : Int) + 1 := IntWalk.i64_in _ (by omega);have HRK := Hd (fun hf : t.f = 3 => which_rank_lt (p := infoB) ht (by simp [infoB, hf]));obtain ⟨r, hr⟩ : ∃ r, rankL h.l k = r := ⟨_, rfl⟩;unfold comB at hCG;have hRL : (whichL infoB (h.l.take k)).length = r := hr;rw [hRL, HCI.out] at HRK;rw [hr] at hRS hCG hrl;rw [hr];have hwr : IntKind.i64.wrap ((r : Int) + 1) = (r : Int) + 1 := IntWalk.i64_in _ (by omega);obtain ⟨ts, tf, tops⟩ := t;dsimp only at a1 hRS hCG HRK;clear ht hT hr hRL;obtain ⟨b, hb⟩ : ∃ b, b = (if tf = 3 then c.getD r false else decide (tf = 1)) := ⟨_, rfl⟩;rw [← hb] at hCG;have HBB := Hd hb;clear hb;have lhB_ := hB.out.lt;have y2 := hB.out.at_ 2;simp at y2;go_upto_region 6 with (fail)
   go_upto_if 30 with (fail)
   go_cut [6, 8] (fun nv bv wx => nv = .int .i64 ((rankL h.l (k + 1) : Nat) : Int) ∧ bv = .bool b ∧ wx = wr)
   case first =>
    by_cases hf : tf = 3
    ·have hrc := HRK.out hf;obtain ⟨bb, hbb⟩ : ∃ bb, c[r]? = some bb := ⟨_, List.getElem?_eq_getElem (by rw [HCL.out]; exact hrc)⟩;obtain ⟨bc, oc, rfl, -, hbc, hcc⟩ := (HCR.out.only hO.out (by simp)).open_ (k := r) (by rw [List.length_map, HCL.out]; exact hrc);have q0 := hcc r _ (by rw [List.getElem?_map, hbb]; rfl);have hbe : b = bb := by rw [HBB.out, if_pos hf, List.getD_eq_getElem?_getD, hbb]; rfl
     have hr1 : rankL h.l (k + 1) = r + 1 := by rw [hRS.out, if_pos hf]
     have HR1 := Hd hr1;have HBE := Hd hbe;subst hf;have hr0 : (0 : Int) ≤ (r : Int) := Int.natCast_nonneg _;have hrc' : (r : Int) < (nc : Int) := by omega
     have lW := hW.out.lt;have x0 := hW.out.at_ 0;simp at x0;clear hcc hbb hbe hr1;go_wp2
     go_meet
     rw [HR1.out, HBE.out];exact ⟨by go_num, rfl, rfl⟩
    ·have hbe : b = decide (tf = 1) := by rw [HBB.out, if_neg hf]
     have hr1 : rankL h.l (k + 1) = r := by rw [hRS.out, if_neg hf]; rfl
     have HR1 := Hd hr1;have HBE := Hd hbe;have hf' : (tf == 3) = false := by simp [hf]
     clear hbe hr1 hf;go_wp2
     go_meet
     rw [HR1.out, HBE.out];exact ⟨rfl, by first | rfl | simp [BEq.beq], rfl⟩
   case rest =>
    obtain ⟨rfl, rfl, rfl⟩ := hcut;clear lhB_ y2 a1;have hsz : g ≤ wc.heap.size := by have := hO.out.size; omega
    go_wp2_with (at_builtin; refine wpList_append_row _ rfl (.tmp 38) (.tmp 40) _ rfl g 4 i0 _ 1 1 Tryz.underlying26 hi hz0 hz1 hz2 rfl (by omega) _ _ _ rfl (own_only hV.out ((Only.refl [] _).alloc _) (by simp)) (wc.heap.size + 1) (some ⟨wc.heap.size, 0, none⟩) 1 1 [.bool b] rfl rfl (row_lit wc 4 #[.bool b]) (by simp [Value.oneCell']) (by unfold maxLen; omega) (by omega) (by simp; omega) ?_; intro v8 w8 hown8 hgrow hat)
    have HVa := Hd (own_only hV.out ((Only.refl [] wc).alloc (.cells #[.bool b] 4)) (by simp));have HT : ((comL h.l c).take (k + 1)).map Value.bool = ((comL h.l c).take k).map Value.bool ++ [.bool b] := by rw [List.take_add_one, hCG.out]; simp
    rw [← HT] at hown8;have hV8 := Hd hown8;have OA : Only [] wc (wc.alloc (.cells #[.bool b] 4)) := (Only.refl [] wc).alloc _;have OG : Only u5.ownBlock.toList (wc.alloc (.cells #[.bool b] 4)) w8 := only_grown hgrow;have hB8 := Hd (OG.blk (OA.blk hB.out (by simp)) (own_apart HVa.out (OA.blk hB.out (by simp)) (by decide)));have hW8 := Hd (OG.blk (OA.blk hW.out (by simp)) (own_apart HVa.out (OA.blk hW.out (by simp)) (by decide)));have hO8 := Hd ((hO.out.trans OA).step OG (fun i hi hl => by have := (HVa.out.lt i (by simpa using hi)).1; omega));clear OA OG HVa HT hown8 hgrow hat hV hB hW hO;go_wp2
    go_roundw
    case rel => exact ⟨k + 1, rfl, by go_num, by omega, hV8, hB8, hW8, hO8⟩
    case measure => simp [intOf]; omega
  ·have hkn : k = n2 := by omega
   subst hkn;have hd2 : decide ((k : Int) < (k : Int)) = false := by simp
   have hVV := hV.out;rw [List.take_of_length_le (by rw [comL_len, HN2.out]; exact Nat.le_refl _)] at hVV;have HVV := Hd hVV;clear hV hVV;have lB := hB.out.lt;have y2 := hB.out.at_ 2;simp at y2;go_wp2
   go_ret
   exact ⟨_, ⟨rfl, by rw [hgg]; exact HVV.out⟩, hO.out⟩



end Go.Proofs.YtghimogdeijgdaaGreatDoor
namespace Go.Proofs.YtghimogdeijgdaaGreatDoor
open Go.RowKit

open Go.Lib hiding intOf
attribute [local go_sem ↓] Go.wp_at_zero Go.wp_at_succ
theorem edgeC_take (h : List (Int × Int)) (k : Nat) : edgeC (h.take k) = (edgeC h).take (k * 2) := by
 induction h generalizing k with
 | nil => simp [edgeC]
 | cons x h ih =>
  cases k with
  | zero => simp [edgeC]
  | succ k =>
   have := ih k;rw [show (k + 1) * 2 = k * 2 + 1 + 1 by omega];simp only [edgeC, List.take_succ_cons, List.flatMap_cons, List.cons_append, List.nil_append] at this ⊢;rw [this]




theorem mayW_inv {h : Hst} {x : Wld} (hm : mayW h x = true) : mayH h = true ∧ x.c.length = (whichL infoB h.l).length ∧ x.l.length = (lostX h.l).length ∧ x.l.all okV = true := by
 unfold mayW at hm;simp only [Bool.and_eq_true, decide_eq_true_eq] at hm;exact ⟨hm.1, hm.2.1, hm.2.2.1, hm.2.2.2⟩
def comW (h : Hst) (x : Wld) : List Bool := if mayW h x = true then comL h.l x.c else []
theorem wcommits_any (A0 A1 A2 Ac Al : Option Addr) (n0 n1 n2 nc nl c0 c1 c2 cc cl B Bc Bl : Nat) (h : Hst) (x : Wld) (w : World) (hg : HIn w B A0 A1 A2 n0 n1 n2 h) (hc : Row w Bc Ac (x.c.map Value.bool)) (hl : Row w Bl Al (edgeC x.l)) (hcl : x.c.length = nc) (hll : x.l.length = nl) (hM : nl ≤ 100000) :
  Calls Tryz.prog 25 #[hval A0 A1 A2 n0 n1 n2 c0 c1 c2, .agg #[.slice Ac nc cc, .slice Al nl cl]] w fun e w' => ∃ V, (e = .returned V ∧ w'.ownsRow w.heap.size 4 1 V (comW h x).length ((comW h x).map Value.bool)) ∧ Only [] w w' := by
 have HMY := Hd (fun w' (O : Only [] w w') => wmay_any A0 A1 A2 Ac Al n0 n1 n2 nc nl c0 c1 c2 cc cl B Bl h x w' (hg.same O) (hl.only O (by simp)) hcl hll hM);have HCM := Hd (fun w' (O : Only [] w w') (hm : mayW h x = true) => wcommitted_any A0 A1 A2 Ac n0 n1 n2 nc c0 c1 c2 cc B Bc h x.c w' (hg.same O) (hc.only O (by simp)) hcl (by rw [← hcl]; exact (mayW_inv hm).2.1.symm));have HN2 : Hid ((comL h.l x.c).length = n2) := Hd (by rw [comL_len]; exact hg.n2);unfold comW;unfold hval at *;clear hg hc hl hcl hll;have HO1 := Hd (((Only.refl [] w).alloc (.cells #[.slice A0 n0 c0, .slice A1 n1 c1, .slice A2 n2 c2] 25)).alloc (.cells #[.slice Ac nc cc, .slice Al nl cl] 29));have HB1 := Hd ((Blk.made w 25 #[.slice A0 n0 c0, .slice A1 n1 c1, .slice A2 n2 c2]).alloc (.cells #[.slice Ac nc cc, .slice Al nl cl] 29));have HW1 := Hd (Blk.made (w.alloc (.cells #[.slice A0 n0 c0, .slice A1 n1 c1, .slice A2 n2 c2] 25)) 29 #[.slice Ac nc cc, .slice Al nl cl]);simp only [World.size_alloc] at HW1
 cases hm : mayW h x with
 | false =>
  rw [hm] at HMY;rw [if_neg (by simp)];clear HCM HN2 hm;go_enter Tryz.func25, Tryz.ntmps25;go_upto_region 1 with (fail)
  generalize ((w.alloc (.cells #[.slice A0 n0 c0, .slice A1 n1 c1, .slice A2 n2 c2] 25)).alloc (.cells #[.slice Ac nc cc, .slice Al nl cl] 29)) = w1 at *;generalize hgg : w.heap.size = g at *;have lB := HB1.out.lt;have y0 := HB1.out.at_ 0;have y1 := HB1.out.at_ 1;have y2 := HB1.out.at_ 2;have lW := HW1.out.lt;have x0 := HW1.out.at_ 0;have x1 := HW1.out.at_ 1;simp at y0 y1 y2 x0 x1;go_wp2_with fail
  refine (HMY.out _ HO1.out).mono ?_;rintro e w2 ⟨rfl, O2⟩;have HO2 := Hd (HO1.out.trans O2);clear O2 HO1 HB1 HW1 HMY lB y0 y1 y2 lW x0 x1;go_wp2
  go_ret
  first | exact ⟨_, ⟨rfl, World.ownsRow_nil _ _ _ _⟩, HO2.out⟩ | exact ⟨⟨_, rfl, World.ownsRow_nil _ _ _ _⟩, HO2.out⟩
 | true =>
  have HCC := Hd (fun w' (O : Only [] w w') => HCM.out w' O hm);rw [hm] at HMY;rw [if_pos rfl, HN2.out];clear HCM HN2 hm;go_enter Tryz.func25, Tryz.ntmps25;go_upto_region 1 with (fail)
  generalize ((w.alloc (.cells #[.slice A0 n0 c0, .slice A1 n1 c1, .slice A2 n2 c2] 25)).alloc (.cells #[.slice Ac nc cc, .slice Al nl cl] 29)) = w1 at *;generalize hgp : w.heap.size + 1 = gp at *;generalize hgg : w.heap.size = g at *;have lB := HB1.out.lt;have y0 := HB1.out.at_ 0;have y1 := HB1.out.at_ 1;have y2 := HB1.out.at_ 2;have lW := HW1.out.lt;have x0 := HW1.out.at_ 0;have x1 := HW1.out.at_ 1;simp at y0 y1 y2 x0 x1;go_wp2_with fail
  refine (HMY.out _ HO1.out).mono ?_;rintro e w2 ⟨rfl, O2⟩;have HO2 := Hd (HO1.out.trans O2);have HB2 := Hd (O2.blk HB1.out (by simp));have HW2 := Hd (O2.blk HW1.out (by simp));clear O2 HO1 HB1 HW1 HMY lB y0 y1 y2 lW x0 x1;have lB := HB2.out.lt;have y0 := HB2.out.at_ 0;have y1 := HB2.out.at_ 1;have y2 := HB2.out.at_ 2;have lW := HW2.out.lt;have x0 := HW2.out.at_ 0;simp at y0 y1 y2 x0;go_wp2_with fail
  refine (HCC.out _ HO2.out).mono ?_;rintro e w3 ⟨V, ⟨rfl, hv⟩, O3⟩;have HV := Hd (own_low hv (show g ≤ w2.heap.size by have := HO2.out.size; omega));have HO3 := Hd (HO2.out.trans O3);clear O3 HO2 HB2 HW2 HCC hv lB y0 y1 y2 lW x0;go_wp2
  go_ret
  exact ⟨_, ⟨rfl, by rw [hgg]; exact HV.out⟩, HO3.out⟩
theorem VVown.low {w : World} {b b' : Nat} {xs : List SlA} (h : VVown w b xs) (hb : b' ≤ b) : VVown w b' xs := fun x hx => own_low (h x hx) hb





def trLen (h : Hst) (x : Pl) : Nat := (triesX h true x).length

end Go.Proofs.YtghimogdeijgdaaGreatDoor
namespace Go.Proofs.YtghimogdeijgdaaGreatDoor
def Goes {β : Type} (f : β → Option β) (L : List β) : Prop := ∀ (i : Nat) (x : β), L[i]? = some x → f x = L[i + 1]?
theorem Goes.tail {β : Type} {f : β → Option β} {a : β} {L : List β} (h : Goes f (a :: L)) : Goes f L := fun i x hx => by
 have := h (i + 1) x (by simpa using hx)
 simpa using this
theorem Goes.head {β : Type} {f : β → Option β} {a : β} {L : List β} (h : Goes f (a :: L)) : f a = L[0]? := by
 have := h 0 a rfl
 simpa using this
theorem Goes.inj {β : Type} {f : β → Option β} {L : List β} (h : Goes f L) {i j : Nat} {x : β} (hi : L[i]? = some x) (hj : L[j]? = some x) : i = j := by
 have key : ∀ (k i j : Nat) (x : β), L.length - j ≤ k → i < j → L[i]? = some x → L[j]? = some x → False := by
  intro k
  induction k with
  | zero => intro i j x hk hij hi hj; have := (List.getElem?_eq_some_iff.1 hj).1; omega
  | succ k ih =>
   intro i j x hk hij hi hj;have h1 := h i x hi;have h2 := h j x hj;have hjl := (List.getElem?_eq_some_iff.1 hj).1;have hil : L[i + 1]? = some L[i + 1] := List.getElem?_eq_getElem (by omega);exact ih (i + 1) (j + 1) L[i + 1] (by omega) (by omega) hil (by rw [← h2, h1, hil])
 rcases Nat.lt_trichotomy i j with hij | hij | hij
 ·exact (key _ i j x (Nat.le_refl _) hij hi hj).elim
 ·exact hij
 ·exact (key _ j i x (Nat.le_refl _) hij hj hi).elim
def prodN : List Nat → Nat
 | [] => 1
 | a :: l => a * prodN l
def gathN {α : Type} (key : α → Nat) (g : α → Nat) (X : List α) (i : Nat) : Nat := prodN ((X.filter fun x => decide (key x = i)).map g)
def whole (h : Hst) : Nat → Nat := gathN (fun x : Pl => x.1) (trLen h) (lostX h.l)
open Go.RowKit
theorem lit_go {w0 w : World} (e : TypeId) (size : Nat) (OW : Only [] w0 w) :
  Only [] w (w.alloc (.cells #[] e)) ∧ Only [] w0 (w.alloc (.cells #[] e)) ∧ (w.alloc (.cells #[] e)).ownsRow w0.heap.size e size (.slice (some ⟨w.heap.size, 0, none⟩) 0 0) 0 [] :=
 have OS : Only [] w (w.alloc (.cells #[] e)) := (Only.refl [] w).alloc (.cells #[] e)
 ⟨OS, OW.trans OS, World.ownsRow_lit w (e := e) (size := size) #[] 0 OW.size (by unfold maxLen; omega) (by simp)⟩
theorem made_go {w0 w : World} (T : TypeId) (cs : Array Value) (OW : Only [] w0 w) :
  Only [] w (w.alloc (.cells cs T)) ∧ Only [] w0 (w.alloc (.cells cs T)) ∧ Blk (w.alloc (.cells cs T)) w.heap.size T cs ∧ w0.heap.size ≤ w.heap.size :=
 have OS : Only [] w (w.alloc (.cells cs T)) := (Only.refl [] w).alloc (.cells cs T)
 ⟨OS, OW.trans OS, Blk.made w T cs, OW.size⟩
theorem app_go {w0 w wn : World} {e : TypeId} {size g n : Nat} {v : Value} {xs : List Value} (OL : w.ownsRow w0.heap.size e size (.slice (some ⟨g, 0, none⟩) 0 0) 0 []) (OW : Only [] w0 w)
  (OVn : wn.ownsRow w0.heap.size e size v (0 + n) ([] ++ xs)) (hgrow : w.grownBy wn (Value.slice (some ⟨g, 0, none⟩) 0 0).ownBlock) :
  Only (Value.slice (some ⟨g, 0, none⟩) 0 0).ownBlock.toList w wn ∧ Only [] w0 wn ∧ ∃ A c, v = .slice A n c ∧ wn.ownsRow w0.heap.size e size (.slice A n c) n xs := by
 have OG := only_grown hgrow;rw [Nat.zero_add, List.nil_append] at OVn;obtain ⟨A, c, rfl, -, -, -, -⟩ := own_row OVn;exact ⟨OG, OW.step OG (fun i hi hl => by have := (OL.lt i (by simpa using hi)).1; omega), A, c, rfl, OVn⟩
open Go.Lib hiding intOf
attribute [local go_sem ↓] Go.wp_at_zero Go.wp_at_succ

theorem rmay16_any (A0 A1 A2 Ac Al : Option Addr) (n0 n1 n2 nc nl c0 c1 c2 cc cl B Bl : Nat) (h : Hst) (x : Wld) (w : World) (hg : HIn w B A0 A1 A2 n0 n1 n2 h) (hl : Row w Bl Al (edgeC x.l)) (hcl : x.c.length = nc) (hll : x.l.length = nl) (hM : nl ≤ 100000) :
  Calls Tryz.prog 21 #[hval A0 A1 A2 n0 n1 n2 c0 c1 c2, .agg #[.slice Ac nc cc, .slice Al nl cl]] w fun e w' => e = .returned (.bool (mayW h x)) ∧ Only [] w w' := by
 have HMY := Hd (fun w' (O : Only [] w w') => refmay_any A0 A1 A2 n0 n1 n2 c0 c1 c2 B h w' (hg.same O));have HIN := Hd (fun w' (O : Only [] w w') => rinfos_any A0 A1 A2 n0 n1 n2 c0 c1 c2 B h w' (hg.same O).at_.r2 hg.n2 (by have := hg.sm.nl; rw [hg.n2] at this; exact this));have HLS := Hd (fun w' (O : Only [] w w') => rlost_any A0 A1 A2 n0 n1 n2 c0 c1 c2 B h w' (hg.same O).at_.r2 hg.n2 (by have := hg.sm.nl; rw [hg.n2] at this; exact this) hg.sm.no);have HG := Hd hl;have HM := Hd hll;rw [lostP_eq] at HLS;have HA := Hd (fun hm => mayW_a (h := h) (x := x) hm);have HB := Hd (fun hm => mayW_b (h := h) (x := x) hm);have HC := Hd (fun hm => mayW_c (h := h) (x := x) hm);have HD := Hd (fun hm h1 h2 => mayW_d (h := h) (x := x) hm h1 h2);rw [hcl] at HB HD;rw [hll] at HC HD;rw [List.length_map] at HLS;unfold infoB at HB HD;obtain ⟨ni, hni⟩ : ∃ ni, (whichL (fun t : Tx => decide (t.f = 3)) h.l).length = ni := ⟨_, rfl⟩;obtain ⟨no, hno⟩ : ∃ no, (lostX h.l).length = no := ⟨_, rfl⟩;rw [hni] at HB HD HIN;rw [hno] at HC HD HLS;generalize mayW h x = q at *;generalize x.l = xl at *;unfold hval at *;clear hg hl hcl hll hni hno;have HO1 := Hd (((Only.refl [] w).alloc (.cells #[.slice A0 n0 c0, .slice A1 n1 c1, .slice A2 n2 c2] 25)).alloc (.cells #[.slice Ac nc cc, .slice Al nl cl] 29));have HB1 := Hd ((Blk.made w 25 #[.slice A0 n0 c0, .slice A1 n1 c1, .slice A2 n2 c2]).alloc (.cells #[.slice Ac nc cc, .slice Al nl cl] 29));have HW1 := Hd (Blk.made (w.alloc (.cells #[.slice A0 n0 c0, .slice A1 n1 c1, .slice A2 n2 c2] 25)) 29 #[.slice Ac nc cc, .slice Al nl cl]);simp only [World.size_alloc] at HW1
 cases hm : mayH h with
 | false =>
  have HE := Hd (HA.out hm);rw [errH_not hm] at HMY;clear HA HB HC HD HIN HLS HG HM hm;go_enter Tryz.func21, Tryz.ntmps21;go_upto_region 1 with (fail)
  generalize ((w.alloc (.cells #[.slice A0 n0 c0, .slice A1 n1 c1, .slice A2 n2 c2] 25)).alloc (.cells #[.slice Ac nc cc, .slice Al nl cl] 29)) = w1 at *;generalize hgw : w.heap.size + 1 = gw at *;generalize hgg : w.heap.size = g at *;refine rg1 [] [] w1 ?_;have OW : Only [] w1 w1.drew := (Only.refl [] w1).drew;generalize w1.drew = wz at *;refine trd (i := 0) (v := ?_) 0 ?_ ?_;rotate_left
  ·(intro wq hSw; obtain ⟨lb_H, y0, y1, y2⟩ := Bk3 (hSw.blk HB1.out (by simp)); simp at y0 y1 y2; obtain ⟨lb_W, x0, x1⟩ := Bk2 (hSw.blk HW1.out (by simp)); simp at x0 x1; clear hSw; go_simp; try with_reducible rfl)
  (try simp only [tdz]);refine tst (i := 1) fun K hK => ?_;go_simp;refine (HMY.out _ (HO1.out.trans OW)).mono ?_;rintro e wa ⟨rfl, Oa⟩;have OW1 := OW.trans Oa;clear Oa;refine kOut hK (OW1) (h := ?_);clear hK K;refine tQ 2 (h := tQ 3 (h := tiq 4 (h := tiq 5 (h := tiq 6 (h := tiq 7 (h := tiq 8 (h := tiq 9 (h := tiq 10 (h := tQ 11 (h := tQ 12 (h := tiq 13 (h := tiq 14 (h := tiq 15 (h := tiq 16 (h := tiq 17 (h := tiq 18 (h := tiq 19 (h := tQ 20 (h := ?_)))))))))))))))))));refine tdn ?_;have HO2 := Hd (HO1.out.trans OW1);go_wp2
  go_ret
  exact ⟨by rw [HE.out]; rfl, HO2.out⟩
 | true =>
  rw [errH_yes hm] at HMY;have HDD := Hd (fun h1 h2 => HD.out hm h1 h2);clear HA HD hm
  by_cases hc : nc = ni
  ·subst hc
   by_cases hl : nl = no
   ·subst hl;have HE := Hd (HDD.out rfl rfl);clear HDD HB HC;go_enter Tryz.func21, Tryz.ntmps21;go_upto_region 1 with (fail)
    generalize ((w.alloc (.cells #[.slice A0 n0 c0, .slice A1 n1 c1, .slice A2 n2 c2] 25)).alloc (.cells #[.slice Ac nc cc, .slice Al nl cl] 29)) = w1 at *;generalize hgw : w.heap.size + 1 = gw at *;generalize hgg : w.heap.size = g at *;have RD0 := Hd fun wq (hSw : Only [] w1 wq) => aI (Bk3 (hSw.blk HB1.out (by simp))) (Bk2 (hSw.blk HW1.out (by simp)));refine rg1 [] [] w1 ?_;have OW : Only [] w1 w1.drew := (Only.refl [] w1).drew;generalize w1.drew = wz at *;refine trq 0 0 RD0 (h := ?_);refine tst (i := 1) fun K hK => ?_;go_simp;refine (HMY.out _ (HO1.out.trans OW)).mono ?_;rintro e wa ⟨rfl, Oa⟩;have OW1 := OW.trans Oa;clear Oa;refine kOut hK (OW1) (h := ?_);clear hK K;refine tQ 2 (h := tQ 3 (h := tQ 4 (h := trq 5 0 RD0 (h := tQ 6 (h := trq 7 0 RD0 (h := ?_))))));refine tst (i := 8) fun K hK => ?_;go_simp;refine (HIN.out _ (HO1.out.trans OW1)).mono ?_;rintro e wb ⟨Ai, ci, ⟨rfl, -⟩, Ob⟩;have OW2 := OW1.trans Ob;clear Ob;refine kOut hK (OW2) (h := ?_);clear hK K;refine tQ 9 (h := tQ 10 (h := tQ 11 (h := tQ 12 (h := tQ 13 (h := trq 14 0 RD0 (h := tQ 15 (h := trq 16 0 RD0 (h := ?_))))))));refine tst (i := 17) fun K hK => ?_;go_simp;refine (HLS.out _ (HO1.out.trans OW2)).mono ?_;rintro e wc ⟨AL, cL, ⟨rfl, -⟩, Oc⟩;have OW3 := OW2.trans Oc;clear Oc;refine kOut hK (OW3) (h := ?_);clear hK K;refine tQ 18 (h := tQ 19 (h := tQ 20 (h := ?_)));refine tdn ?_;have HO2 := Hd (HO1.out.trans OW3);have HW2 := Hd (OW3.blk HW1.out (by simp));clear OW OW1 OW2 OW3 HB1 HW1 HMY HIN HLS HO1;go_wp2_with fail
    go_loopw [5] (fun iv wr => ∃ k : Nat, iv = .int .i64 (k : Int) ∧ k ≤ nl ∧ Hid ((xl.take k).any (fun v => !okV v) = false) ∧ Hid (Blk wr gw 29 #[.slice Ac nc cc, .slice Al nl cl]) ∧ Hid (Only [] w wr)) (fun iv _ => nl - (intOf iv).toNat)
    case atStart => exact ⟨0, rfl, by omega, Hd rfl, HW2, HO2⟩
    case round =>
     obtain ⟨k, rfl, hk, hn, hW, hO⟩ := hrel;clear HW2 HO2;have lW := hW.out.lt;have x1 := hW.out.at_ 1;simp at x1
     by_cases hlt : k < nl
     ·obtain ⟨u, hu⟩ : ∃ u, xl[k]? = some u := ⟨_, List.getElem?_eq_getElem (by rw [HM.out]; exact hlt)⟩;obtain ⟨b, off, rfl, hbB, hbw, hcx⟩ := (HG.out.only hO.out (by simp)).open_ (k := k * 2) (by rw [edgeC_len, HM.out]; omega);have hE := edgeC_get xl k u hu;have e0 := hcx _ _ hE.1;have e1 := hcx _ _ hE.2;rw [← Nat.add_assoc] at e1;have h01 : (k : Int) < (nl : Int) := by omega
      have hk0 : (0 : Int) ≤ (k : Int) := Int.natCast_nonneg _;have hwk : IntKind.i64.wrap ((k : Int) + 1) = (k : Int) + 1 := IntWalk.i64_in _ (by omega);have HTK := Hd (anyE_take hu);have HTT := Hd (fun h => anyE_true hu h);obtain ⟨v1, v2⟩ := u;dsimp only at e0 e1;clear hcx hE hu;have hcase : (v1 = 1 ∧ okV (v1, v2) = true) ∨ ((v1 == 1) = false ∧ ((v1 = 0 ∧ v2 = 0 ∧ okV (v1, v2) = true) ∨ (okV (v1, v2) = false ∧ ((v1 == 0) = false ∨ ((v1 == 0) = true ∧ (v2 == 0) = false))))) := by
       unfold okV
       by_cases h1 : v1 = 1
       ·exact .inl ⟨h1, by simp [h1]⟩
       ·refine .inr ⟨by simp [h1], ?_⟩
        by_cases h0 : v1 = 0
        ·by_cases h2 : v2 = 0
         ·exact .inl ⟨h0, h2, by simp [h0, h2]⟩
         ·exact .inr ⟨by simp [h0, h2], .inr ⟨by simp [h0], by simp [h2]⟩⟩
        ·exact .inr ⟨by simp [h0, h1], .inl (by simp [h0])⟩
      have O2 : Only [] wr (wr.alloc (.cells #[.int .i64 v1, .int .i64 v2] 53)) := (Only.refl [] wr).alloc _;have HW3 := Hd (O2.blk hW.out (by simp));have HO3 := Hd (hO.out.trans O2);clear O2;rcases hcase with ⟨rfl, ho⟩ | ⟨hb, ⟨rfl, rfl, ho⟩ | ⟨ho, hb0 | ⟨hb0, hb1⟩⟩⟩
      ·have HN := Hd (HTK.out.trans (by rw [hn.out, ho]));clear HTK HTT hn ho;go_wp2
       go_roundw
       case rel => exact ⟨k + 1, by go_num, by omega, HN, HW3, HO3⟩
       case measure => simp [intOf]; omega
      ·have HN := Hd (HTK.out.trans (by rw [hn.out, ho]));clear HTK HTT hn ho;go_wp2
       go_roundw
       case rel => exact ⟨k + 1, by go_num, by omega, HN, HW3, HO3⟩
       case measure => simp [intOf]; omega
      ·have HF := Hd (HTT.out ho);clear HTK HTT hn ho;have hq1 : (v1 != 1) = true := by simp [bne, hb]
       have hq2 : (v1 != 0) = true := by simp [bne, hb0]
       go_wp2
       go_ret
       exact ⟨by rw [HE.out, HF.out]; rfl, HO3.out⟩
      ·have HF := Hd (HTT.out ho);clear HTK HTT hn ho;have hq1 : (v1 != 1) = true := by simp [bne, hb]
       have hq2 : (v1 != 0) = false := by simp [bne, hb0]
       have hq3 : (v2 != 0) = true := by simp [bne, hb1]
       go_wp2
       go_ret
       exact ⟨by rw [HE.out, HF.out]; rfl, HO3.out⟩
     ·have hkn : k = nl := by omega
      subst hkn;have hd2 : decide ((k : Int) < (k : Int)) = false := by simp
      rw [List.take_of_length_le (by rw [HM.out]; omega)] at hn;go_wp2
      go_ret
      exact ⟨by rw [HE.out, hn.out]; rfl, hO.out⟩
   ·have HE := Hd (HC.out hl);have hne : ((nl : Int) == (no : Int)) = false := by simp; omega
    have hne2 : (nl == no) = false := by simp; omega
    have hne3 : decide (nl = no) = false := by simp; omega
    clear HDD HB HC HG HM hl;go_enter Tryz.func21, Tryz.ntmps21;go_upto_region 1 with (fail)
    generalize ((w.alloc (.cells #[.slice A0 n0 c0, .slice A1 n1 c1, .slice A2 n2 c2] 25)).alloc (.cells #[.slice Ac nc cc, .slice Al nl cl] 29)) = w1 at *;generalize hgw : w.heap.size + 1 = gw at *;generalize hgg : w.heap.size = g at *;have RD0 := Hd fun wq (hSw : Only [] w1 wq) => aI (Bk3 (hSw.blk HB1.out (by simp))) (Bk2 (hSw.blk HW1.out (by simp)));refine rg1 [] [] w1 ?_;have OW : Only [] w1 w1.drew := (Only.refl [] w1).drew;generalize w1.drew = wz at *;refine trq 0 0 RD0 (h := ?_);refine tst (i := 1) fun K hK => ?_;go_simp;refine (HMY.out _ (HO1.out.trans OW)).mono ?_;rintro e wa ⟨rfl, Oa⟩;have OW1 := OW.trans Oa;clear Oa;refine kOut hK (OW1) (h := ?_);clear hK K;refine tQ 2 (h := tQ 3 (h := tQ 4 (h := trq 5 0 RD0 (h := tQ 6 (h := trq 7 0 RD0 (h := ?_))))));refine tst (i := 8) fun K hK => ?_;go_simp;refine (HIN.out _ (HO1.out.trans OW1)).mono ?_;rintro e wb ⟨Ai, ci, ⟨rfl, -⟩, Ob⟩;have OW2 := OW1.trans Ob;clear Ob;refine kOut hK (OW2) (h := ?_);clear hK K;refine tQ 9 (h := tQ 10 (h := tQ 11 (h := tQ 12 (h := tQ 13 (h := trq 14 0 RD0 (h := tQ 15 (h := trq 16 0 RD0 (h := ?_))))))));refine tst (i := 17) fun K hK => ?_;go_simp;refine (HLS.out _ (HO1.out.trans OW2)).mono ?_;rintro e wc ⟨AL, cL, ⟨rfl, -⟩, Oc⟩;have OW3 := OW2.trans Oc;clear Oc;refine kOut hK (OW3) (h := ?_);clear hK K;refine tQ 18 (h := tQ 19 (h := tQ 20 (h := ?_)));refine tdn ?_;have HO2 := Hd (HO1.out.trans OW3);go_wp2
    go_ret
    exact ⟨by rw [HE.out]; rfl, HO2.out⟩
  ·have HE := Hd (HB.out hc);have hne : ((nc : Int) == (ni : Int)) = false := by simp; omega
   have hne4 : ((nc : Int) != (ni : Int)) = true := by simp; omega
   have hne5 : (nc != ni) = true := by simp; omega
   have hne2 : (nc == ni) = false := by simp; omega
   have hne3 : decide (nc = ni) = false := by simp; omega
   clear HDD HB HC HLS HG HM hc;go_enter Tryz.func21, Tryz.ntmps21;go_upto_region 1 with (fail)
   generalize ((w.alloc (.cells #[.slice A0 n0 c0, .slice A1 n1 c1, .slice A2 n2 c2] 25)).alloc (.cells #[.slice Ac nc cc, .slice Al nl cl] 29)) = w1 at *;generalize hgw : w.heap.size + 1 = gw at *;generalize hgg : w.heap.size = g at *;have RD0 := Hd fun wq (hSw : Only [] w1 wq) => aI (Bk3 (hSw.blk HB1.out (by simp))) (Bk2 (hSw.blk HW1.out (by simp)));refine rg1 [] [] w1 ?_;have OW : Only [] w1 w1.drew := (Only.refl [] w1).drew;generalize w1.drew = wz at *;refine trq 0 0 RD0 (h := ?_);refine tst (i := 1) fun K hK => ?_;go_simp;refine (HMY.out _ (HO1.out.trans OW)).mono ?_;rintro e wa ⟨rfl, Oa⟩;have OW1 := OW.trans Oa;clear Oa;refine kOut hK (OW1) (h := ?_);clear hK K;refine tQ 2 (h := tQ 3 (h := tQ 4 (h := trq 5 0 RD0 (h := tQ 6 (h := trq 7 0 RD0 (h := ?_))))));refine tst (i := 8) fun K hK => ?_;go_simp;refine (HIN.out _ (HO1.out.trans OW1)).mono ?_;rintro e wb ⟨Ai, ci, ⟨rfl, -⟩, Ob⟩;have OW2 := OW1.trans Ob;clear Ob;refine kOut hK (OW2) (h := ?_);clear hK K;refine tQ 9 (h := tQ 10 (h := tQ 11 (h := tQ 12 (h := tiq 13 (h := tiq 14 (h := tiq 15 (h := tiq 16 (h := tiq 17 (h := tiq 18 (h := tiq 19 (h := tQ 20 (h := ?_))))))))))));refine tdn ?_;have HO2 := Hd (HO1.out.trans OW2);go_wp2
   go_ret
   exact ⟨by rw [HE.out]; rfl, HO2.out⟩
theorem row_val {w : World} {B q : Nat} {A : Option Addr} {l : List V2} {v : V2} (h : Row w B A (edgeC l)) (hv : l[q]? = some v) :
  ∃ b o, A = some ⟨b, o, none⟩ ∧ b < B ∧ b < w.heap.size ∧ w.cell? ⟨b, o + q * 2, none⟩ = some (.int .i64 v.1) ∧ w.cell? ⟨b, o + q * 2 + 1, none⟩ = some (.int .i64 v.2) := by
 have hq := (List.getElem?_eq_some_iff.1 hv).1;obtain ⟨b, o, rfl, hB, hb, hc⟩ := h.open_ (k := q * 2) (by rw [edgeC_len]; omega);have hE := edgeC_get l q v hv;exact ⟨b, o, rfl, hB, hb, hc _ _ hE.1, by rw [Nat.add_assoc]; exact hc _ _ hE.2⟩
end Go.Proofs.YtghimogdeijgdaaGreatDoor
