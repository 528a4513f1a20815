/- Parts. -/
import Derived.Test.YthdofaoamljkfaaGreatDoorLaw24AllK14
set_option maxRecDepth 10000
set_option maxHeartbeats 16000000
set_option linter.unusedVariables false
set_option linter.unusedSimpArgs false
namespace Go.Proofs.YthdofaoamljkfaaGreatDoor
open Go.RowKit
open Go.Lib hiding intOf
theorem few_first (A0 A1 A2 : Option Addr) (c0 c1 c2 : Nat) (h : Hst) (w : World) (hg : HAt w w.heap.size A0 A1 A2 h) (hm0 : h.ss.length ≤ maxLen) (hm1 : h.ks.length ≤ maxLen) (hm2 : h.l.length ≤ maxLen)
  (hz0 : ∀ z ∈ h.ss, z.size ≤ maxLen) (hz1 : ∀ z ∈ h.ks, z.size ≤ maxLen) (hT : UTabs w) :
  Calls Tryz.prog 6 #[.agg #[.slice A0 h.ss.length c0, .slice A1 h.ks.length c1, .slice A2 h.l.length c2]] w fun e w' => ∃ A0' A1' A2' c0' c1' c2', (e = .returned (.agg #[.slice A0' (fewH h).ss.length c0', .slice A1' (fewH h).ks.length c1', .slice A2' (fewH h).l.length c2']) ∧ HIn w' w'.heap.size A0' A1' A2' (fewH h).ss.length (fewH h).ks.length (fewH h).l.length (fewH h)) ∧ Only [] w w' := by
 unfold maxLen at *;refine (few11_any A0 A1 A2 _ _ _ c0 c1 c2 w.heap.size h w hg rfl rfl rfl (by omega) (by omega) (by omega) (fun z hz => by have := hz0 z hz; omega) (fun z hz => by have := hz1 z hz; omega)).mono ?_;rintro e w' ⟨A0', A1', A2', c0', c1', c2', ⟨rfl, hA⟩, O⟩;exact ⟨A0', A1', A2', c0', c1', c2', ⟨rfl, ⟨hA, rfl, rfl, rfl, few_small h, hT.only O⟩⟩, O⟩
theorem few_in (A0 A1 A2 : Option Addr) (n0 n1 n2 c0 c1 c2 B : Nat) (h : Hst) (w : World) (hg : HIn w B A0 A1 A2 n0 n1 n2 h) (hf : fewH h = h) :
  Calls Tryz.prog 6 #[.agg #[.slice A0 n0 c0, .slice A1 n1 c1, .slice A2 n2 c2]] w fun e w' => ∃ A0' A1' A2' c0' c1' c2', (e = .returned (.agg #[.slice A0' n0 c0', .slice A1' n1 c1', .slice A2' n2 c2']) ∧ HIn w' w'.heap.size A0' A1' A2' n0 n1 n2 h) ∧ Only [] w w' := by
 have a0 := hg.sm.ns;have a1 := hg.sm.nk;have a2 := hg.sm.nl;have e0 := hg.n0;have e1 := hg.n1;have e2 := hg.n2;refine (few11_any A0 A1 A2 n0 n1 n2 c0 c1 c2 B h w hg.at_ e0 e1 e2 (by omega) (by omega) (by omega) (fun z hz => by have := hg.sm.s z hz; omega) (fun z hz => by have := hg.sm.k z hz; omega)).mono ?_;rintro e w' ⟨A0', A1', A2', c0', c1', c2', ⟨rfl, hA⟩, O⟩;rw [hf] at hA;refine ⟨A0', A1', A2', c0', c1', c2', ⟨?_, ⟨hA, e0, e1, e2, hg.sm, hg.u.only O⟩⟩, O⟩;unfold hval;rw [hf, e0, e1, e2]
theorem row_past {w w' : World} {B : Nat} {A : Option Addr} {xs : List Value} {g : Nat} {t : TypeId} {cs : Array Value} (h : Row w B A xs) (hb : Blk w g t cs) (hne : ∀ u : Value, xs[0]? = some u → ∀ j : Nat, cs[j]? ≠ some u) (ho : Only [g] w w') : Row w' w'.heap.size A xs := by
 rcases h with rfl | ⟨b, off, rfl, h1, h2, hc⟩
 ·exact .inl rfl
 ·cases xs with
  | nil => exact .inl rfl
  | cons u xs =>
   have h0 := hc 0 u rfl;have hbg : b ≠ g := fun e => by
    subst e;rw [hb.at_] at h0;exact hne u rfl _ h0
   have := ho.size;exact .inr ⟨b, off, rfl, by omega, by omega, fun j v hv => (ho.cell (p := ⟨b, off + j, none⟩) (by show b < _; omega) (by simp [hbg])).trans (hc j v hv)⟩
theorem HIn.past {w w' : World} {B : Nat} {A0 A1 A2 : Option Addr} {n0 n1 n2 : Nat} {h : Hst} {g : Nat} {t : TypeId} {a0 a1 a2 : Option Addr} {k0 k1 k2 e0 e1 e2 : Nat} (hI : HIn w B A0 A1 A2 n0 n1 n2 h) (hb : Blk w g t #[.slice a0 k0 e0, .slice a1 k1 e1, .slice a2 k2 e2]) (ho : Only [g] w w') (hU : UTabs w') :
  HIn w' w'.heap.size A0 A1 A2 n0 n1 n2 h := by
 have key : ∀ (u : Value), (∀ a n c, u ≠ .slice a n c) → ∀ j : Nat, (#[Value.slice a0 k0 e0, .slice a1 k1 e1, .slice a2 k2 e2] : Array Value)[j]? ≠ some u := by
  intro u hu j hj
  match j with
  | 0 => simp at hj; exact hu _ _ _ hj.symm
  | 1 => simp at hj; exact hu _ _ _ hj.symm
  | 2 => simp at hj; exact hu _ _ _ hj.symm
  | j + 3 => simp at hj
 obtain ⟨⟨r0, r1, ⟨xs, hx, r2, hxs⟩⟩, q0, q1, q2, q3, -⟩ := hI;have ks : ∀ l : List ByteArray, ∀ u : Value, (strs l)[0]? = some u → ∀ a n c, u ≠ .slice a n c := by
  intro l u hu a n c e;subst e
  cases l <;> simp [strs] at hu
 refine ⟨⟨row_past r0 hb (fun u hu => key u (ks _ u hu)) ho, row_past r1 hb (fun u hu => key u (ks _ u hu)) ho, ⟨xs, hx, row_past r2 hb (fun u hu => key u ?_) ho, fun x hx => ⟨row_past (hxs x hx).row hb (fun u hu => key u ?_) ho, (hxs x hx).le, (hxs x hx).cap⟩⟩⟩, q0, q1, q2, q3, hU⟩
 ·intro a n c e;subst e
  cases xs <;> simp [txC, TxA.c] at hu
 ·intro a n c e;subst e
  cases hxo : x.t.ops with
  | nil => rw [hxo] at hu; simp [opC] at hu
  | cons y l => rw [hxo] at hu; simp [opC, Op4.c] at hu
attribute [local go_sem ↓] Go.wp_at_zero Go.wp_at_succ
theorem may_keys24 {h : Hst} (hm : mayH h = true) {t : Tx} (ht : t ∈ h.l) : KeyOk t.ops ∧ t.ops.length ≤ 20 := by
 unfold mayH namesB txsB opsB at hm;simp only [Bool.and_eq_true, decide_eq_true_eq] at hm;obtain ⟨-, ⟨hk, -⟩, ⟨-, hx, -⟩, ho, -⟩ := hm;refine ⟨fun o hop => ?_, ?_⟩
 ·have h1 := List.all_eq_true.1 (List.all_eq_true.1 ho t ht) o hop;unfold opB at h1;simp only [Bool.and_eq_true, decide_eq_true_eq] at h1;omega
 ·have h1 := List.all_eq_true.1 hx t ht;unfold txB at h1;simp only [Bool.and_eq_true, decide_eq_true_eq] at h1;omega
def plI (i : Nat) (l : List Int) : List (Int × Int) := l.map fun k => ((i : Int), k)
theorem plI_step {i : Nat} {l : List Int} {k : Nat} {z : Int} (h : l[k]? = some z) : plI i (l.take (k + 1)) = plI i (l.take k) ++ [((i : Int), z)] := by
 unfold plI;rw [List.take_add_one, h, Option.toList_some, List.map_append]
 rfl
theorem plI_len (i : Nat) (l : List Int) (k : Nat) : (plI i (l.take k)).length ≤ k := by
 unfold plI;rw [List.length_map, List.length_take];omega
theorem own_from {w : World} {base base' : Nat} {e : TypeId} {size : Nat} {v : Value} {n : Nat} {xs : List Value} (h : w.ownsRow base e size v n xs) (hb : base' ≤ base) : w.ownsRow base' e size v n xs := by
 obtain ⟨hl, hv⟩ := h;refine ⟨hl, ?_⟩;rcases hv with hv | ⟨g, cap, cur, rfl, hg, rest⟩
 ·exact .inl hv
 ·exact .inr ⟨g, cap, cur, rfl, Nat.le_trans hb hg, rest⟩
theorem wrreads_any (A0 A1 A2 : Option Addr) (n0 n1 n2 c0 c1 c2 B : Nat) (h : Hst) (w : World) (hg : HIn w B A0 A1 A2 n0 n1 n2 h) (hm : mayH h = true) :
  Calls Tryz.prog 25 #[hval A0 A1 A2 n0 n1 n2 c0 c1 c2] w fun e w' => ∃ V, (e = .returned V ∧ w'.ownsRow w.heap.size 56 2 V (rdsL h.l).length (placeC (rdsL h.l))) ∧ Only [] w w' := by
 obtain ⟨i0, hi, hz0, hz1, hz2⟩ := info_parts info_place;have hn2 : n2 ≤ 40 := by rw [← hg.n2]; exact (may_ops hm).1
 have HOP := Hd (fun t (ht : t ∈ h.l) => may_keys24 hm ht);have HRL := Hd (fun q => rdsQ_le (fun t (ht : t ∈ h.l) => (may_keys24 hm ht).2) q);have HKC := Hd (fun w' (O : Only [] w w') => kcom_any A0 A1 A2 n0 n1 n2 c0 c1 c2 B h w' (hg.same O).at_.r2 hg.n2 (by omega));have HG := Hd (fun w' (O : Only [] w w') => (hg.same O).at_.r2);have hwl := which_le comT h.l;rw [hg.n2] at hwl;have HN2 := Hd hg.n2;rw [show (fun t : Tx => decide (t.f = 1)) = comT from rfl] at HKC;obtain ⟨nc, hnc⟩ : ∃ nc, (whichL comT h.l).length = nc := ⟨_, rfl⟩;rw [hnc] at HKC hwl;have HNC := Hd hnc;unfold hval at *;clear hg hm hnc;have HO1 := Hd ((Only.refl [] w).alloc (.cells #[.slice A0 n0 c0, .slice A1 n1 c1, .slice A2 n2 c2] 25));have HB1 := Hd (Blk.made w 25 #[.slice A0 n0 c0, .slice A1 n1 c1, .slice A2 n2 c2]);go_enter Tryz.func25, Tryz.ntmps25;go_upto_region 2 with (fail)
 generalize (w.alloc (.cells #[.slice A0 n0 c0, .slice A1 n1 c1, .slice A2 n2 c2] 25)) = w1 at *;generalize hgg : w.heap.size = g at *;have lB := HB1.out.lt;have y0 := HB1.out.at_ 0;have y1 := HB1.out.at_ 1;have y2 := HB1.out.at_ 2;simp at y0 y1 y2;go_wp2_with fail
 refine (HKC.out _ HO1.out).mono ?_;rintro e w2 ⟨AC, cC, ⟨rfl, hR2⟩, O2⟩;have HR2 := Hd hR2;have HO2 := Hd (HO1.out.trans O2);have HB2 := Hd (O2.blk HB1.out (by simp));have hgl : g ≤ w2.heap.size := by have := HO2.out.size; omega
 clear O2 HO1 HB1 hR2 HKC lB y0 y1 y2;go_wp2_with fail
 go_loopw [3, 11] (fun V iv wr => ∃ q : Nat, iv = .int .i64 (q : Int) ∧ q ≤ nc ∧ Hid (wr.ownsRow w2.heap.size 56 2 V (rdsQ h.l q).length (placeC (rdsQ h.l q))) ∧ Hid (Only [] w2 wr)) (fun _ iv _ => nc - (intOf iv).toNat)
 case atStart => exact ⟨0, rfl, by omega, Hd (World.ownsRow_nil _ _ _ _), Hd (Only.refl [] w2)⟩
 case round =>
  obtain ⟨q, rfl, hq, hV, hO⟩ := hrel;have hsz := hO.out.size
  by_cases hlt : q < nc
  ·obtain ⟨z, hz⟩ : ∃ z, (whichL comT h.l)[q]? = some z := ⟨_, List.getElem?_eq_getElem (by rw [HNC.out]; exact hlt)⟩;obtain ⟨i, t, rfl, ht, -, -⟩ := which_get hz;have HQS := Hd (rdsQ_step hz ht);have hq1 := HRL.out q;obtain ⟨hko, hol⟩ := HOP.out t (List.mem_of_getElem? ht);have hi2 : i < n2 := by rw [← HN2.out]; exact (List.getElem?_eq_some_iff.1 ht).1
   obtain ⟨bc, oc, rfl, -, hbc, hcc⟩ := (HR2.out.only hO.out (by simp)).open_ (k := q) (by rw [List.length_map, HNC.out]; exact hlt);have d0 := hcc q _ (by rw [List.getElem?_map, hz]; rfl);obtain ⟨b, off, A', cp, rfl, -, hbw, hTA, hTO⟩ := (HG.out _ (HO2.out.trans hO.out)).at_ ht;have x2 := hTA.c2;dsimp only at x2;have HOU := Hd (fun w' (O : Only [] wr w') => kouter_any A' t.ops.length cp B t.ops w' (hTO.row.only O (by simp)) rfl (by omega) hko);have lO := outN_le t.ops t.ops.length;rw [outN_all t.ops (Nat.le_refl _)] at lO;have HB4 := Hd (hO.out.blk HB2.out (by simp));have lB := HB4.out.lt;have y2 := HB4.out.at_ 2;simp at y2;obtain ⟨nu, hnu⟩ : ∃ nu, (outI t.ops).length = nu := ⟨_, rfl⟩;rw [hnu] at HOU lO;generalize outI t.ops = L at *;generalize t.ops.length = nt at *;have h01 : (q : Int) < (nc : Int) := by omega
   have hq0 : (0 : Int) ≤ (q : Int) := Int.natCast_nonneg _;have hi0 : (0 : Int) ≤ (i : Int) := Int.natCast_nonneg _;have hi3 : (i : Int) < (n2 : Int) := by omega
   have hwq : IntKind.i64.wrap ((q : Int) + 1) = (q : Int) + 1 := IntWalk.i64_in _ (by omega);clear hcc hTA hTO hz ht hko;go_wp2_with fail
   refine (HOU.out _ (Only.refl [] _)).mono ?_;rintro e w4 ⟨VU, ⟨rfl, hU4⟩, O4⟩;obtain ⟨AU, cU, rfl, -, -, -, -⟩ := own_row hU4;have HU4 := Hd (own_from hU4 hsz);have HV4 := Hd (own_only hV.out O4 (by simp));have HO4 := Hd (hO.out.trans O4);clear O4 hU4 hV hO hsz HOU HB4 lB y2 x2 d0 hbc hbw;obtain ⟨wo, hwo⟩ : ∃ wo : World, wo = wr := ⟨_, rfl⟩;subst hwo;go_wp2_with fail
   go_loopw [3, 23] (fun V iv wr => ∃ k : Nat, iv = .int .i64 (k : Int) ∧ k ≤ nu ∧ Hid (wr.ownsRow w2.heap.size 56 2 V (rdsQ h.l q ++ plI i (L.take k)).length (placeC (rdsQ h.l q ++ plI i (L.take k)))) ∧ Hid (wr.ownsRow w2.heap.size 3 1 (.slice AU nu cU) nu (L.map (Value.int .i64))) ∧ Hid (Only [] w2 wr)) (fun _ iv _ => nu - (intOf iv).toNat)
   case atStart => exact ⟨0, rfl, by omega, Hd (by simpa [plI] using HV4.out), HU4, HO4⟩
   case round =>
    obtain ⟨k, rfl, hk, hV, hU, hO⟩ := hrel;clear HV4 HU4 HO4;have hsz := hO.out.size
    by_cases hlk : k < nu
    ·obtain ⟨z, hz⟩ : ∃ z, L[k]? = some z := ⟨_, List.getElem?_eq_getElem (by omega)⟩;have HPS := Hd (plI_step (i := i) hz);have hpl := plI_len i L k;obtain ⟨bu, ou, rfl, -, hbu, hcu⟩ := (own_row_at hU.out).1.open_ (k := k) (by rw [List.length_map]; omega);have e0 := hcu k _ (by rw [List.getElem?_map, hz]; rfl);have h02 : (k : Int) < (nu : Int) := by omega
     have hk0 : (0 : Int) ≤ (k : Int) := Int.natCast_nonneg _;have hwk : IntKind.i64.wrap ((k : Int) + 1) = (k : Int) + 1 := IntWalk.i64_in _ (by omega);have hll : (rdsQ h.l q ++ plI i (L.take k)).length ≤ 1000 := by rw [List.length_append]; omega
     generalize hR : rdsQ h.l q ++ plI i (L.take k) = R at *;clear hcu hz;go_wp2_with (at_builtin; refine wpList_append_row _ rfl (.tmp 27) (.tmp 31) _ rfl w2.heap.size 56 i0 _ 2 16 Tryz.underlying29 hi hz0 hz1 hz2 rfl (by omega) _ _ _ rfl (own_only hV.out ((Only.refl [] _).alloc _) (by simp)) (wr.heap.size + 1) (some ⟨wr.heap.size, 0, none⟩) 1 1 [.int .i64 (i : Int), .int .i64 z] rfl rfl (row_lit wr 56 #[.int .i64 (i : Int), .int .i64 z]) (by intro u hu; simp at hu; rcases hu with rfl | rfl <;> rfl) (by unfold maxLen; omega) (by omega) (by simp; omega) ?_; intro v4 w4 hown4 hgrow hat)
     have HV4 : Hid (w4.ownsRow w2.heap.size 56 2 v4 (rdsQ h.l q ++ plI i (L.take (k + 1))).length (placeC (rdsQ h.l q ++ plI i (L.take (k + 1))))) := Hd (by
      rw [HPS.out, ← List.append_assoc, hR, placeC_append, List.length_append];exact hown4)
     have hgr : World.grownBy (wr.alloc (.cells #[.int .i64 (i : Int), .int .i64 z] 56)) w4 u3.ownBlock := hgrow;have HU4 := Hd (own_only (own_only hU.out ((Only.refl [] wr).alloc (.cells #[.int .i64 (i : Int), .int .i64 z] 56)) (by simp)) (only_grown hgr) (own_two (own_only hU.out ((Only.refl [] wr).alloc (.cells #[.int .i64 (i : Int), .int .i64 z] 56)) (by simp)) (own_only hV.out ((Only.refl [] wr).alloc (.cells #[.int .i64 (i : Int), .int .i64 z] 56)) (by simp)) (by decide)));have HO4 := Hd ((hO.out.alloc (.cells #[.int .i64 (i : Int), .int .i64 z] 56)).step (only_grown hgr) (fun j hj hl => by have := (hV.out.lt j (by simpa using hj)).1; omega));clear hown4 hgrow hgr hat hV hU hO e0 hbu;go_wp2
     go_roundw
     case rel => exact ⟨k + 1, by go_num, by omega, HV4, HU4, HO4⟩
     case measure => simp [intOf]; omega
    ·obtain rfl : k = nu := by omega
     have HV9 : Hid (wr.ownsRow w2.heap.size 56 2 u3 (rdsQ h.l (q + 1)).length (placeC (rdsQ h.l (q + 1)))) := Hd (by
      have := hV.out;rw [List.take_of_length_le (by omega)] at this;rw [HQS.out];exact this)
     have HO9 := hO;clear hV hU hO;go_wp2
     go_roundw
     case rel => exact ⟨q + 1, by go_num, by omega, HV9, HO9⟩
     case measure => simp [intOf]; omega
  ·obtain rfl : q = nc := by omega
   subst hgg;have HV9 := Hd (own_from hV.out hgl);rw [rdsQ_all h.l (by rw [HNC.out]; exact Nat.le_refl _)] at HV9;have HO9 := Hd (HO2.out.trans hO.out);clear hV hO;go_wp2
   go_ret
   exact ⟨_, ⟨rfl, HV9.out⟩, HO9.out⟩
end Go.Proofs.YthdofaoamljkfaaGreatDoor
