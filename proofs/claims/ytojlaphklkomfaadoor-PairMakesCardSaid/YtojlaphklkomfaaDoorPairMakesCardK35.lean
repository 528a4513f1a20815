/- Parts. -/
import Derived.Test.YtojlaphklkomfaaDoorPairMakesCardK32
set_option maxRecDepth 10000
set_option maxHeartbeats 16000000
set_option linter.unusedVariables false
set_option linter.unusedSimpArgs false
namespace Go.Proofs.YtojlaphklkomfaaDoor
open Go.RowKit
open Go.Lib hiding intOf
attribute [local go_sem ↓] Go.wp_at_zero Go.wp_at_succ
theorem rless_any (a b : ByteArray) (w : World) (ha : a.size ≤ 65537) (hb : b.size ≤ 65537) :
  Calls Tryd.prog 29 #[.string a, .string b] w fun e w' => e = .returned (.bool (lessL (runesL (by_ a)) (runesL (by_ b)))) ∧ Only [] w w' := by
 have HA := Hd (rrunes02_any a w ha);have HB := Hd (fun w' => rrunes02_any b w' hb);have hxl := runes_len (by_ a);have hyl := runes_len (by_ b);rw [by_length] at hxl hyl;obtain ⟨x, hx⟩ : ∃ x, x = runesL (by_ a) := ⟨_, rfl⟩;obtain ⟨y, hy⟩ : ∃ y, y = runesL (by_ b) := ⟨_, rfl⟩;rw [← hx] at HA hxl;rw [← hy] at HB hyl;rw [← hx, ← hy];obtain ⟨n, hn⟩ : ∃ n, n = x.length := ⟨_, rfl⟩;obtain ⟨m, hm⟩ : ∃ m, m = y.length := ⟨_, rfl⟩;rw [← hn] at HA hxl;rw [← hm] at HB hyl;obtain ⟨R, hR⟩ : ∃ R, R = lessL x y := ⟨_, rfl⟩;rw [← hR];have HN := Hd hn;have HM := Hd hm;have HR := Hd hR;clear hx hy hn hm hR;go_enter Tryd.func29, Tryd.ntmps29;go_wp2_with fail
 refine (HA.out).mono ?_;rintro e w1 ⟨hO1, V1, rfl, hown1⟩;have HO1 := Hd hO1;obtain ⟨A1, c1, rfl, -, -, -, hrow1⟩ := own_row hown1;have HROW1 := Hd hrow1;clear hO1 hown1 hrow1;go_wp2_with fail
 refine (HB.out w1).mono ?_;rintro e w2 ⟨hO2, V2, rfl, hown2⟩;have HO2 := Hd (HO1.out.trans hO2);have HX := Hd (HROW1.out.only hO2 (by simp));obtain ⟨A2, c2, rfl, -, -, -, hrow2⟩ := own_row hown2;have HY := Hd hrow2;clear hO2 hown2 hrow2 HROW1;go_wp2_with fail
 go_loopw [7] (fun iv wr => ∃ (k q : Nat), iv = .int .i64 k ∧ k ≤ n ∧ k ≤ m ∧ Hid (R = lessL (x.drop k) (y.drop k)) ∧ Hid (w2.drewN q = wr)) (fun iv _ => n - (intOf iv).toNat)
 case atStart => exact ⟨0, 0, rfl, by omega, by omega, HR, Hd rfl⟩
 case round =>
  obtain ⟨k, q, rfl, hk1, hk2, HL, hw⟩ := hrel
  by_cases hlt : k < n ∧ k < m
  ·obtain ⟨l1, l2⟩ := hlt;have i1 : (k : Int) < (n : Int) := by omega
   have i2 : (k : Int) < (m : Int) := by omega
   have i0 : (0 : Int) ≤ (k : Int) := Int.natCast_nonneg _;obtain ⟨r, hr⟩ : ∃ r, x[k]? = some r := ⟨_, List.getElem?_eq_getElem (by rw [← HN.out]; exact l1)⟩;obtain ⟨z, hz⟩ : ∃ z, y[k]? = some z := ⟨_, List.getElem?_eq_getElem (by rw [← HM.out]; exact l2)⟩;have HDR := Hd (less_drop x y k r z hr hz);obtain ⟨b1, o1, rfl, -, hbw1, hc1⟩ := HX.out.open_ (k := k) (by rw [i64s_len, ← HN.out]; exact l1);obtain ⟨b2, o2, rfl, -, hbw2, hc2⟩ := HY.out.open_ (k := k) (by rw [i64s_len, ← HM.out]; exact l2);have g1 : wr.cell? ⟨b1, o1 + k, none⟩ = some (.int .i64 (r : Int)) := by rw [← hw.out]; exact hc1 _ _ (i64s_at x k r hr)
   have g2 : wr.cell? ⟨b2, o2 + k, none⟩ = some (.int .i64 (z : Int)) := by rw [← hw.out]; exact hc2 _ _ (i64s_at y k z hz)
   have hwk : IntKind.i64.wrap ((k : Int) + 1) = (k : Int) + 1 := IntWalk.i64_in _ (by omega);clear hr hz hc1 hc2
   by_cases hrz : r = z
   ·subst hrz;have hne : ((r : Int) != (r : Int)) = false := by simp
    have HL2 : Hid (R = lessL (x.drop (k + 1)) (y.drop (k + 1))) := Hd (by rw [HL.out, HDR.out, if_pos rfl]);clear HL HDR;go_wp2_with fail
    go_quiet (fail)
    go_wp2
    go_roundw
    case rel =>
     refine ⟨k + 1, q + nq, by go_num, by omega, by omega, HL2, Hd ?_⟩;rw [← hw.out, World.drewN_drewN]
    case measure => simp [intOf]; omega
   ·have hne : ((r : Int) != (z : Int)) = true := by simp; omega
    have HF : Hid (R = decide (r < z)) := Hd (by rw [HL.out, HDR.out, if_neg hrz]);have HOW := Hd (HO2.out.drewN q);rw [hw.out] at HOW;clear HL HDR hrz;go_wp2_with fail
    go_quiet (fail)
    have g1' : (wr.drewN nq).cell? ⟨b1, o1 + k, none⟩ = some (.int .i64 (r : Int)) := g1;have g2' : (wr.drewN nq).cell? ⟨b2, o2 + k, none⟩ = some (.int .i64 (z : Int)) := g2;have HOW2 := Hd (HOW.out.drewN nq);generalize wr.drewN nq = w5 at *;clear g1 g2;go_wp2_with fail
    go_quiet (fail)
    go_wp2
    go_ret
    exact ⟨by first | (rw [HF.out]; done) | (rw [HF.out]; rfl) | (rw [HF.out]; simp), HOW2.out.drewN _⟩
  ·have HF : Hid (R = decide (n < m)) := Hd (by
    rw [HL.out, less_end (by
     by_cases h : k < n
     ·right; exact List.drop_of_length_le (by rw [← HM.out]; omega)
     ·left; exact List.drop_of_length_le (by rw [← HN.out]; omega)), List.length_drop, List.length_drop, ← HN.out, ← HM.out]
    by_cases h : n < m
    ·rw [decide_eq_true h, decide_eq_true (by omega)]
    ·rw [decide_eq_false h, decide_eq_false (by omega)])
   have hguard : (decide ((k : Int) < (n : Int)) = false ∧ decide (k < n) = false) ∨ ((k : Int) < (n : Int) ∧ decide ((k : Int) < (m : Int)) = false ∧ decide (k < m) = false) := by
    by_cases h : k < n
    ·right
     exact ⟨by omega, decide_eq_false (by omega), decide_eq_false (by omega)⟩
    ·left
     exact ⟨decide_eq_false (by omega), decide_eq_false (by omega)⟩
   have HOW := Hd (HO2.out.drewN q);rw [hw.out] at HOW;clear hlt HL;rcases hguard with ⟨h1, h2⟩ | ⟨h1, h2, h3⟩
   ·go_wp2
    go_ret
    exact ⟨by first | (rw [HF.out]; done) | (rw [HF.out]; rfl) | (rw [HF.out]; simp), HOW.out⟩
   ·go_wp2
    go_ret
    exact ⟨by first | (rw [HF.out]; done) | (rw [HF.out]; rfl) | (rw [HF.out]; simp), HOW.out⟩
end Go.Proofs.YtojlaphklkomfaaDoor
namespace Go.Proofs.YtojlaphklkomfaaDoor
open Go.RowKit
section
variable {P : Program} {ops : Array Oper} {Q : Exit → Act → World → Prop} {md : Region.Mode} {S : Array Bool → World → Prop}
theorem timed_fork {i j : Nat} {oi oj : Oper} {fuel : Nat} {listed : Array Bool} {a : Act} {w : World} (hr : Region.ready md ops listed = [i, j]) (hoi : ops[i]? = some oi) (hoj : ops[j]? = some oj)
  (hi : ∀ K' : Act → World → Prop, Shut (∀ a w, S (listed.setIfInBounds i true) w → (S (listed.setIfInBounds i true) w → wpAnyT P md ops Q S fuel (listed.setIfInBounds i true) a w) → K' a w) →
   if Region.wanted oi (yielded ops a.tmps) = true then Oper.wp P oi a w K' Q else K' (a.put oi.dst undef) w)
  (hj : ∀ K' : Act → World → Prop, Shut (∀ a w, S (listed.setIfInBounds j true) w → (S (listed.setIfInBounds j true) w → wpAnyT P md ops Q S fuel (listed.setIfInBounds j true) a w) → K' a w) →
   if Region.wanted oj (yielded ops a.tmps) = true then Oper.wp P oj a w K' Q else K' (a.put oj.dst undef) w) : S listed w → wpAnyT P md ops Q S (fuel + 1) listed a w := by
 intro _;refine ⟨fun h0 => (by rw [hr] at h0; cases h0), fun k hk => ?_⟩;rw [hr] at hk;rcases List.mem_cons.1 hk with rfl | hk
 ·exact wpOp_step hoi (fun K' hK => hi K' (fun a w hS hW => hK a w ⟨hS, hW hS⟩))
 ·obtain rfl := List.mem_singleton.1 hk;exact wpOp_step hoj (fun K' hK => hj K' (fun a w hS hW => hK a w ⟨hS, hW hS⟩))
end
theorem Row.drop {w : World} {B g off : Nat} {xs : List Value} (h : Row w B (some ⟨g, off, none⟩) xs) (k : Nat) : Row w B (some ⟨g, off + k, none⟩) (xs.drop k) := by
 rcases h with h | ⟨b, o, he, hb, hw, hc⟩
 ·subst h;exact .inl (by simp)
 ·obtain ⟨rfl, rfl⟩ : g = b ∧ off = o := by
   have := Option.some.inj he;exact ⟨congrArg Addr.block this, congrArg Addr.off this⟩
  refine .inr ⟨g, off + k, rfl, hb, hw, fun j u hu => ?_⟩;rw [List.getElem?_drop] at hu;rw [Nat.add_assoc];exact hc (k + j) u hu
theorem Blk.row {w : World} {g : Nat} {t : TypeId} {cs : Array Value} (h : Blk w g t cs) : Row w (g + 1) (some ⟨g, 0, none⟩) cs.toList :=
 .inr ⟨g, 0, rfl, by omega, h.lt, fun j u hu => by rw [Nat.zero_add, h.at_ j]; simpa using hu⟩
end Go.Proofs.YtojlaphklkomfaaDoor
