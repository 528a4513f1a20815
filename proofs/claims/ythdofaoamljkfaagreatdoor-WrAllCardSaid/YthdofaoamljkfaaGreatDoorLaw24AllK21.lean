/- Parts. -/
import Derived.Test.YthdofaoamljkfaaGreatDoorLaw24AllK20
set_option maxRecDepth 10000
set_option maxHeartbeats 16000000
set_option linter.unusedVariables false
set_option linter.unusedSimpArgs false
namespace Go.Proofs.YthdofaoamljkfaaGreatDoor
open Go.RowKit
open Go.Lib hiding intOf
attribute [local go_sem ↓] Go.wp_at_zero Go.wp_at_succ
theorem rless_any (a b : ByteArray) (w : World) (ha : a.size ≤ 65537) (hb : b.size ≤ 65537) :
  Calls Tryz.prog 71 #[.string a, .string b] w fun e w' => e = .returned (.bool (lessL (runesL (by_ a)) (runesL (by_ b)))) ∧ Only [] w w' := by
 have HA := Hd (rrunes02_any a w ha);have HB := Hd (fun w' => rrunes02_any b w' hb);have hxl := runes_len (by_ a);have hyl := runes_len (by_ b);rw [by_length] at hxl hyl;obtain ⟨x, hx⟩ : ∃ x, x = runesL (by_ a) := ⟨_, rfl⟩;obtain ⟨y, hy⟩ : ∃ y, y = runesL (by_ b) := ⟨_, rfl⟩;rw [← hx] at HA hxl;rw [← hy] at HB hyl;rw [← hx, ← hy];obtain ⟨n, hn⟩ : ∃ n, n = x.length := ⟨_, rfl⟩;obtain ⟨m, hm⟩ : ∃ m, m = y.length := ⟨_, rfl⟩;rw [← hn] at HA hxl;rw [← hm] at HB hyl;obtain ⟨R, hR⟩ : ∃ R, R = lessL x y := ⟨_, rfl⟩;rw [← hR];have HN := Hd hn;have HM := Hd hm;have HR := Hd hR;clear hx hy hn hm hR;go_enter Tryz.func71, Tryz.ntmps71;go_wp2_with fail
 refine (HA.out).mono ?_;rintro e w1 ⟨hO1, V1, rfl, hown1⟩;have HO1 := Hd hO1;obtain ⟨A1, c1, rfl, -, -, -, hrow1⟩ := own_row hown1;have HROW1 := Hd hrow1;clear hO1 hown1 hrow1;go_wp2_with fail
 refine (HB.out w1).mono ?_;rintro e w2 ⟨hO2, V2, rfl, hown2⟩;have HO2 := Hd (HO1.out.trans hO2);have HX := Hd (HROW1.out.only hO2 (by simp));obtain ⟨A2, c2, rfl, -, -, -, hrow2⟩ := own_row hown2;have HY := Hd hrow2;clear hO2 hown2 hrow2 HROW1;go_wp2_with fail
 go_loopw [7] (fun iv wr => ∃ (k q : Nat), iv = .int .i64 k ∧ k ≤ n ∧ k ≤ m ∧ Hid (R = lessL (x.drop k) (y.drop k)) ∧ Hid (w2.drewN q = wr)) (fun iv _ => n - (intOf iv).toNat)
 case atStart => exact ⟨0, 0, rfl, by omega, by omega, HR, Hd rfl⟩
 case round =>
  obtain ⟨k, q, rfl, hk1, hk2, HL, hw⟩ := hrel
  by_cases hlt : k < n ∧ k < m
  ·obtain ⟨l1, l2⟩ := hlt;have i1 : (k : Int) < (n : Int) := by omega
   have i2 : (k : Int) < (m : Int) := by omega
   have i0 : (0 : Int) ≤ (k : Int) := Int.natCast_nonneg _;obtain ⟨r, hr⟩ : ∃ r, x[k]? = some r := ⟨_, List.getElem?_eq_getElem (by rw [← HN.out]; exact l1)⟩;obtain ⟨z, hz⟩ : ∃ z, y[k]? = some z := ⟨_, List.getElem?_eq_getElem (by rw [← HM.out]; exact l2)⟩;have HDR := Hd (less_drop x y k r z hr hz);obtain ⟨b1, o1, rfl, -, hbw1, hc1⟩ := HX.out.open_ (k := k) (by rw [i64s_len, ← HN.out]; exact l1);obtain ⟨b2, o2, rfl, -, hbw2, hc2⟩ := HY.out.open_ (k := k) (by rw [i64s_len, ← HM.out]; exact l2);have g1 : wr.cell? ⟨b1, o1 + k, none⟩ = some (.int .i64 (r : Int)) := by rw [← hw.out]; exact hc1 _ _ (i64s_at x k r hr)
   have g2 : wr.cell? ⟨b2, o2 + k, none⟩ = some (.int .i64 (z : Int)) := by rw [← hw.out]; exact hc2 _ _ (i64s_at y k z hz)
   have hwk : IntKind.i64.wrap ((k : Int) + 1) = (k : Int) + 1 := IntWalk.i64_in _ (by omega);clear hr hz hc1 hc2
   by_cases hrz : r = z
   ·subst hrz;have hne : ((r : Int) != (r : Int)) = false := by simp
    have HL2 : Hid (R = lessL (x.drop (k + 1)) (y.drop (k + 1))) := Hd (by rw [HL.out, HDR.out, if_pos rfl]);clear HL HDR;go_wp2_with fail
    go_quiet (fail)
    go_wp2
    go_roundw
    case rel =>
     refine ⟨k + 1, q + nq, by go_num, by omega, by omega, HL2, Hd ?_⟩;rw [← hw.out, World.drewN_drewN]
    case measure => simp [intOf]; omega
   ·have hne : ((r : Int) != (z : Int)) = true := by simp; omega
    have HF : Hid (R = decide (r < z)) := Hd (by rw [HL.out, HDR.out, if_neg hrz]);have HOW := Hd (HO2.out.drewN q);rw [hw.out] at HOW;clear HL HDR hrz;go_wp2_with fail
    go_quiet (fail)
    have g1' : (wr.drewN nq).cell? ⟨b1, o1 + k, none⟩ = some (.int .i64 (r : Int)) := g1;have g2' : (wr.drewN nq).cell? ⟨b2, o2 + k, none⟩ = some (.int .i64 (z : Int)) := g2;have HOW2 := Hd (HOW.out.drewN nq);generalize wr.drewN nq = w5 at *;clear g1 g2;go_wp2_with fail
    go_quiet (fail)
    go_wp2
    go_ret
    exact ⟨by first | (rw [HF.out]; done) | (rw [HF.out]; rfl) | (rw [HF.out]; simp), HOW2.out.drewN _⟩
  ·have HF : Hid (R = decide (n < m)) := Hd (by
    rw [HL.out, less_end (by
     by_cases h : k < n
     ·right; exact List.drop_of_length_le (by rw [← HM.out]; omega)
     ·left; exact List.drop_of_length_le (by rw [← HN.out]; omega)), List.length_drop, List.length_drop, ← HN.out, ← HM.out]
    by_cases h : n < m
    ·rw [decide_eq_true h, decide_eq_true (by omega)]
    ·rw [decide_eq_false h, decide_eq_false (by omega)])
   have hguard : (decide ((k : Int) < (n : Int)) = false ∧ decide (k < n) = false) ∨ ((k : Int) < (n : Int) ∧ decide ((k : Int) < (m : Int)) = false ∧ decide (k < m) = false) := by
    by_cases h : k < n
    ·right
     exact ⟨by omega, decide_eq_false (by omega), decide_eq_false (by omega)⟩
    ·left
     exact ⟨decide_eq_false (by omega), decide_eq_false (by omega)⟩
   have HOW := Hd (HO2.out.drewN q);rw [hw.out] at HOW;clear hlt HL;rcases hguard with ⟨h1, h2⟩ | ⟨h1, h2, h3⟩
   ·go_wp2
    go_ret
    exact ⟨by first | (rw [HF.out]; done) | (rw [HF.out]; rfl) | (rw [HF.out]; simp), HOW.out⟩
   ·go_wp2
    go_ret
    exact ⟨by first | (rw [HF.out]; done) | (rw [HF.out]; rfl) | (rw [HF.out]; simp), HOW.out⟩
theorem rtab_any (A : Option Addr) (n c B : Nat) (t : List ByteArray) (w : World) (hn : t.length = n) (hnm : n ≤ 9223372036854775806) (hz : ∀ z ∈ t, z.size ≤ 65537) (hA : Row w B A (strs t)) :
  Calls Tryz.prog 47 #[.slice A n c] w fun e w' => e = .returned (.bool (tabB t)) ∧ Only [] w w' := by
 have HIS := Hd (fun (k : Nat) z w' (hz' : t[k]? = some z) => ris_any z w' (hz z (List.mem_of_getElem? hz')));have HLS := Hd (fun (k j : Nat) y z w' (hy : t[j]? = some y) (hz' : t[k]? = some z) => (rless_any y z w' (hz y (List.mem_of_getElem? hy)) (hz z (List.mem_of_getElem? hz')) : Calls Tryz.prog 71 #[.string y, .string z] w' fun e w'' => e = .returned (.bool (lessB y z)) ∧ Only [] w' w''));have HN := Hd hn;have HROW := Hd hA;clear hn hz hA;go_enter Tryz.func47, Tryz.ntmps47;go_wp2_with fail
 go_loopw [3] (fun iv wr => ∃ (k : Nat), iv = .int .i64 k ∧ k ≤ n ∧ Hid (∀ (j : Nat) x, j < k → t[j]? = some x → isName x = true) ∧ Hid (∀ (j : Nat) x y, j + 1 < k → t[j]? = some x → t[j + 1]? = some y → lessB x y = true) ∧ Hid (Only [] w wr)) (fun iv _ => n - (intOf iv).toNat)
 case atStart => exact ⟨0, rfl, by omega, Hd (fun j x h => by omega), Hd (fun j x y h => by omega), Hd (Only.refl [] w)⟩
 case round =>
  obtain ⟨k, rfl, hk, HNM, HLE, HO⟩ := hrel
  by_cases hlt : k < n
  ·have h01 : (k : Int) < (n : Int) := by omega
   have hk0 : (0 : Int) ≤ (k : Int) := Int.natCast_nonneg _;have hwk : IntKind.i64.wrap ((k : Int) + 1) = (k : Int) + 1 := IntWalk.i64_in _ (by omega);obtain ⟨b, off, rfl, hbB, hbw, hcell⟩ := HROW.out.open_ (k := k) (by rw [strs, List.length_map, HN.out]; exact hlt);obtain ⟨l, hl⟩ : ∃ l, t[k]? = some l := ⟨_, List.getElem?_eq_getElem (by rw [HN.out]; exact hlt)⟩;have hup := fun (j : Nat) (x : ByteArray) (hx : t[j]? = some x) => ((HO.out.cell (p := ⟨b, off + j, none⟩) hbw (by simp)).trans (hcell j _ (by rw [strs, List.getElem?_map, hx]; rfl)) : wr.cell? ⟨b, off + j, none⟩ = some (.string x));have HC1 := Hd (hup k l hl);have hbr : b < wr.heap.size := by have := HO.out.size; omega
   have HI := Hd (fun w' => HIS.out k l w' hl);have HLK := Hd hl;obtain ⟨v, hv⟩ : ∃ v, v = isName l := ⟨_, rfl⟩;rw [← hv] at HI;have HV := Hd hv
   cases v with
   | false =>
    have HF : Hid (tabB t = false) := Hd (tab_bad1 HLK.out HV.out.symm);clear hcell hl hv hup;go_wp2_with fail
    refine rg1 [] [] wr ?_;refine tQ 0 (h := tQ 1 (h := tQ 2 (h := ?_)));refine trd (i := 3) (v := ?_) 0 ?_ ?_;rotate_left
    ·(intro wq hSw; have hcl := (hSw.cell (p := ⟨b, off + k, none⟩) hbr (by simp)).trans HC1.out; clear hSw; go_simp; try with_reducible rfl)
    (try simp only [tdz]);refine tst (i := 4) fun K hK => ?_;go_simp;refine (HI.out _).mono ?_;rintro e w6 ⟨rfl, O6⟩;refine kOut hK (((Only.refl [] wr).drew).trans O6) (h := ?_);clear hK K;refine tQ 5 (h := tQ 6 (h := tiq 7 (h := tiq 8 (h := tiq 9 (h := tiq 10 (h := tiq 11 (h := tiq 12 (h := tiq 13 (h := tiq 14 (h := tiq 15 (h := tiq 16 (h := tiq 17 (h := tiq 18 (h := tiq 19 (h := tiq 20 (h := tiq 21 (h := tQ 22 (h := ?_))))))))))))))))));refine tdn ?_;have HNW := Hd (HO.out.trans (((Only.refl [] wr).drew).trans O6));go_wp2
    go_ret
    exact ⟨by rw [HF.out]; rfl, HNW.out⟩
   | true =>
    have HNM2 : Hid (∀ (j : Nat) x, j < k + 1 → t[j]? = some x → isName x = true) := Hd (fun j x hj hx => by
     by_cases h : j < k
     ·exact HNM.out j x h hx
     ·obtain rfl : j = k := by omega
      rw [HLK.out] at hx;obtain rfl := Option.some.inj hx;exact HV.out.symm)
    by_cases hk00 : k = 0
    ·subst hk00;have HC0 : Hid (wr.cell? ⟨b, off, none⟩ = some (.string l)) := Hd HC1.out;have HLE2 : Hid (∀ (j : Nat) x y, j + 1 < 0 + 1 → t[j]? = some x → t[j + 1]? = some y → lessB x y = true) := Hd (fun j x y h => by omega);clear hcell hl hv hup;go_wp2_with fail
     refine rg1 [] [] wr ?_;refine tQ 0 (h := tQ 1 (h := tQ 2 (h := ?_)));refine trd (i := 3) (v := ?_) 0 ?_ ?_;rotate_left
     ·(intro wq hSw; have hcl := (hSw.cell (p := ⟨b, off, none⟩) hbr (by simp)).trans HC0.out; clear hSw; go_simp; try with_reducible rfl)
     (try simp only [tdz]);refine tst (i := 4) fun K hK => ?_;go_simp;refine (HI.out _).mono ?_;rintro e w6 ⟨rfl, O6⟩;refine kOut hK (((Only.refl [] wr).drew).trans O6) (h := ?_);clear hK K;refine tQ 5 (h := tQ 6 (h := tQ 7 (h := tQ 8 (h := tQ 9 (h := tiq 10 (h := tiq 11 (h := tiq 12 (h := tiq 13 (h := tiq 14 (h := tiq 15 (h := tiq 16 (h := tiq 17 (h := tiq 18 (h := tiq 19 (h := tiq 20 (h := tQ 21 (h := tQ 22 (h := ?_))))))))))))))))));refine tdn ?_;have HNW := Hd (HO.out.trans (((Only.refl [] wr).drew).trans O6));go_wp2
     go_roundw
     case rel => exact ⟨0 + 1, by first | rfl | go_num, by omega, HNM2, HLE2, HNW⟩
     case measure => simp [intOf]; omega
    ·obtain ⟨j, hj⟩ : ∃ j, k = j + 1 := ⟨k - 1, by omega⟩;have hkp : decide ((0 : Int) < (k : Int)) = true := decide_eq_true (by omega);have hkp2 : decide (0 < k) = true := decide_eq_true (by omega);have hwj : IntKind.i64.wrap ((k : Int) - 1) = (j : Int) := by rw [IntWalk.i64_in _ (by omega)]; omega
     have hj0 : (0 : Int) ≤ (j : Int) := Int.natCast_nonneg _;have hj1 : (j : Int) < (n : Int) := by omega
     obtain ⟨y, hy⟩ : ∃ y, t[j]? = some y := ⟨_, List.getElem?_eq_getElem (by rw [HN.out]; omega)⟩;have HC2 := Hd (hup j y hy);have HJ := Hd hj;have HY := Hd hy;have HLS1 := Hd (fun w' => HLS.out k j y l w' hy HLK.out);obtain ⟨u, hu⟩ : ∃ u, u = lessB y l := ⟨_, rfl⟩;have hu2 : u = lessL (runesL (by_ y)) (runesL (by_ l)) := hu;rw [← hu2] at HLS1;clear hu2;have HU := Hd hu;clear hj hy hu hcell hl hv hup
     cases u with
     | false =>
      have HF : Hid (tabB t = false) := Hd (tab_bad2 HY.out (by rw [← HJ.out]; exact HLK.out) HU.out.symm);go_wp2_with fail
      have RD0 := Hd fun wq (hSw : Only [] wr wq) => aI ((hSw.cell (p := ⟨b, off + k, none⟩) hbr (by simp)).trans HC1.out) ((hSw.cell (p := ⟨b, off + j, none⟩) hbr (by simp)).trans HC2.out);refine rg1 [] [] wr ?_;refine tQ 0 (h := tQ 1 (h := tQ 2 (h := trq 3 0 RD0 (h := ?_))));refine tst (i := 4) fun K hK => ?_;go_simp;refine (HI.out _).mono ?_;rintro e w6 ⟨rfl, O6⟩;refine kOut hK (((Only.refl [] wr).drew).trans O6) (h := ?_);clear hK K;refine tQ 5 (h := tQ 6 (h := tQ 7 (h := tQ 8 (h := tQ 9 (h := tQ 10 (h := tQ 11 (h := tQ 12 (h := tQ 13 (h := trq 14 0 RD0 (h := tQ 15 (h := tQ 16 (h := tQ 17 (h := trq 18 0 RD0 (h := ?_))))))))))))));refine tst (i := 19) fun K hK => ?_;go_simp;refine (HLS1.out _).mono ?_;rintro e w7 ⟨rfl, O7⟩;refine kOut hK ((((Only.refl [] wr).drew).trans O6).trans O7) (h := ?_);clear hK K;refine tQ 20 (h := tQ 21 (h := tQ 22 (h := ?_)));refine tdn ?_;have HNW := Hd (HO.out.trans ((((Only.refl [] wr).drew).trans O6).trans O7));go_wp2
      go_ret
      exact ⟨by rw [HF.out]; rfl, HNW.out⟩
     | true =>
      have HLE2 : Hid (∀ (i : Nat) x z, i + 1 < k + 1 → t[i]? = some x → t[i + 1]? = some z → lessB x z = true) := Hd (fun i x z hi hx hz => by
       by_cases h : i + 1 < k
       ·exact HLE.out i x z h hx hz
       ·obtain rfl : i = j := by have := HJ.out; omega
        rw [HY.out] at hx;obtain rfl := Option.some.inj hx;rw [← HJ.out, HLK.out] at hz;obtain rfl := Option.some.inj hz;exact HU.out.symm)
      go_wp2_with fail
      have RD0 := Hd fun wq (hSw : Only [] wr wq) => aI ((hSw.cell (p := ⟨b, off + k, none⟩) hbr (by simp)).trans HC1.out) ((hSw.cell (p := ⟨b, off + j, none⟩) hbr (by simp)).trans HC2.out);refine rg1 [] [] wr ?_;refine tQ 0 (h := tQ 1 (h := tQ 2 (h := trq 3 0 RD0 (h := ?_))));refine tst (i := 4) fun K hK => ?_;go_simp;refine (HI.out _).mono ?_;rintro e w6 ⟨rfl, O6⟩;refine kOut hK (((Only.refl [] wr).drew).trans O6) (h := ?_);clear hK K;refine tQ 5 (h := tQ 6 (h := tQ 7 (h := tQ 8 (h := tQ 9 (h := tQ 10 (h := tQ 11 (h := tQ 12 (h := tQ 13 (h := trq 14 0 RD0 (h := tQ 15 (h := tQ 16 (h := tQ 17 (h := trq 18 0 RD0 (h := ?_))))))))))))));refine tst (i := 19) fun K hK => ?_;go_simp;refine (HLS1.out _).mono ?_;rintro e w7 ⟨rfl, O7⟩;refine kOut hK ((((Only.refl [] wr).drew).trans O6).trans O7) (h := ?_);clear hK K;refine tQ 20 (h := tQ 21 (h := tQ 22 (h := ?_)));refine tdn ?_;have HNW := Hd (HO.out.trans ((((Only.refl [] wr).drew).trans O6).trans O7));go_wp2
      go_roundw
      case rel => exact ⟨k + 1, by go_num, by omega, HNM2, HLE2, HNW⟩
      case measure => simp [intOf]; omega
  ·have hkn : k = n := by omega
   subst hkn;have hd : decide ((k : Int) < (k : Int)) = false := by simp
   have HF : Hid (tabB t = true) := Hd ((tab_iff t).2 ⟨fun j x hx => HNM.out j x (by rw [← HN.out]; exact (List.getElem?_eq_some_iff.1 hx).1) hx, fun j x y hx hy => HLE.out j x y (by rw [← HN.out]; exact (List.getElem?_eq_some_iff.1 hy).1) hx hy⟩);go_wp2
   go_ret
   exact ⟨by rw [HF.out]; rfl, HO.out⟩
end Go.Proofs.YthdofaoamljkfaaGreatDoor
namespace Go.Proofs.YthdofaoamljkfaaGreatDoor
open Go.RowKit
section
variable {P : Program} {ops : Array Oper} {Q : Exit → Act → World → Prop} {md : Region.Mode} {S : Array Bool → World → Prop}
theorem timed_fork {i j : Nat} {oi oj : Oper} {fuel : Nat} {listed : Array Bool} {a : Act} {w : World} (hr : Region.ready md ops listed = [i, j]) (hoi : ops[i]? = some oi) (hoj : ops[j]? = some oj)
  (hi : ∀ K' : Act → World → Prop, Shut (∀ a w, S (listed.setIfInBounds i true) w → (S (listed.setIfInBounds i true) w → wpAnyT P md ops Q S fuel (listed.setIfInBounds i true) a w) → K' a w) →
   if Region.wanted oi (yielded ops a.tmps) = true then Oper.wp P oi a w K' Q else K' (a.put oi.dst undef) w)
  (hj : ∀ K' : Act → World → Prop, Shut (∀ a w, S (listed.setIfInBounds j true) w → (S (listed.setIfInBounds j true) w → wpAnyT P md ops Q S fuel (listed.setIfInBounds j true) a w) → K' a w) →
   if Region.wanted oj (yielded ops a.tmps) = true then Oper.wp P oj a w K' Q else K' (a.put oj.dst undef) w) : S listed w → wpAnyT P md ops Q S (fuel + 1) listed a w := by
 intro _;refine ⟨fun h0 => (by rw [hr] at h0; cases h0), fun k hk => ?_⟩;rw [hr] at hk;rcases List.mem_cons.1 hk with rfl | hk
 ·exact wpOp_step hoi (fun K' hK => hi K' (fun a w hS hW => hK a w ⟨hS, hW hS⟩))
 ·obtain rfl := List.mem_singleton.1 hk;exact wpOp_step hoj (fun K' hK => hj K' (fun a w hS hW => hK a w ⟨hS, hW hS⟩))
end
theorem Row.drop {w : World} {B g off : Nat} {xs : List Value} (h : Row w B (some ⟨g, off, none⟩) xs) (k : Nat) : Row w B (some ⟨g, off + k, none⟩) (xs.drop k) := by
 rcases h with h | ⟨b, o, he, hb, hw, hc⟩
 ·subst h;exact .inl (by simp)
 ·obtain ⟨rfl, rfl⟩ : g = b ∧ off = o := by
   have := Option.some.inj he;exact ⟨congrArg Addr.block this, congrArg Addr.off this⟩
  refine .inr ⟨g, off + k, rfl, hb, hw, fun j u hu => ?_⟩;rw [List.getElem?_drop] at hu;rw [Nat.add_assoc];exact hc (k + j) u hu
theorem Blk.row {w : World} {g : Nat} {t : TypeId} {cs : Array Value} (h : Blk w g t cs) : Row w (g + 1) (some ⟨g, 0, none⟩) cs.toList :=
 .inr ⟨g, 0, rfl, by omega, h.lt, fun j u hu => by rw [Nat.zero_add, h.at_ j]; simpa using hu⟩
end Go.Proofs.YthdofaoamljkfaaGreatDoor
