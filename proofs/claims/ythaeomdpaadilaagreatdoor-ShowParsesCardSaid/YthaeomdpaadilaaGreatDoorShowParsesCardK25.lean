/- Contracts of the reference of layer 5. A number's text: the reference's Print. Contracts of the reference of layer 5: Print. The document's events: kinds, May. Contracts of the document's names: Runes, Clean, Is, Less. A region that draws its order: two operations may come up next, and each is followed. -/
import Derived.Test.YthaeomdpaadilaaGreatDoorShowParsesCardK6
import Derived.Test.YthaeomdpaadilaaGreatDoorShowParsesCardK20
import Derived.Test.YthaeomdpaadilaaGreatDoorShowParsesCardK21
import Derived.Test.YthaeomdpaadilaaGreatDoorShowParsesCardK22
import Derived.Test.YthaeomdpaadilaaGreatDoorShowParsesCardK24
import Derived.Test.YthaeomdpaadilaaGreatDoorShowParsesCardK9
import Derived.Deep.CutBlock
import Derived.Deep.DeepCutAuto
import Derived.Test.YthaeomdpaadilaaGreatDoorShowParsesCardK16
import Derived.Deep.QuietTactic
import Derived.BigQuiet
import Derived.Test.YthaeomdpaadilaaGreatDoorShowParsesCardK1
set_option linter.unusedVariables false
set_option linter.unusedSimpArgs false
namespace Go.Proofs.YthaeomdpaadilaaGreatDoor
open Go.RowKit
set_option maxHeartbeats 400000 in
theorem rmay_any (k n : Int) (w : World) : Calls Tryz.prog 55 #[.agg #[.int .i64 k, .int .i64 n]] w fun e w' => e = .returned (.bool (mayB k n)) ∧ Only [] w w' := by
 unfold mayB
 by_cases h1 : k = 1
 ·subst h1
  go_enter Tryz.func55, Tryz.ntmps55
  go_wp2
  go_ret
  exact ⟨by simp, (Only.refl _ _).alloc _⟩
 ·have h1' : (k == 1) = false := by simp [h1]
  have H1 := Lib.hid h1
  clear h1
  by_cases h0 : k = 0
  ·subst h0
   go_enter Tryz.func55, Tryz.ntmps55
   go_wp2
   go_ret
   exact ⟨ret_boolv (by simp; try (rw [Bool.eq_iff_iff]; simp)), (Only.refl _ _).alloc _⟩
  ·have h0' : (k == 0) = false := by simp [h0]
   have H0 := Lib.hid h0
   clear h0
   by_cases h2 : k = 2
   ·subst h2
    go_enter Tryz.func55, Tryz.ntmps55
    go_wp2
    go_ret
    exact ⟨ret_boolv (by simp; try (rw [Bool.eq_iff_iff]; simp)), (Only.refl _ _).alloc _⟩
   ·have h2' : (k == 2) = false := by simp [h2]
    have H2 := Lib.hid h2
    clear h2
    go_enter Tryz.func55, Tryz.ntmps55
    go_wp2
    go_ret
    exact ⟨ret_boolv (by simp [H0.out, H1.out, H2.out]), (Only.refl _ _).alloc _⟩
end Go.Proofs.YthaeomdpaadilaaGreatDoor

set_option linter.unusedVariables false
set_option linter.unusedSimpArgs false
namespace Go.Proofs.YthaeomdpaadilaaGreatDoor
open Go.RowKit
end Go.Proofs.YthaeomdpaadilaaGreatDoor

set_option linter.unusedVariables false
set_option linter.unusedSimpArgs false
namespace Go.Proofs.YthaeomdpaadilaaGreatDoor
open Go.RowKit
end Go.Proofs.YthaeomdpaadilaaGreatDoor

set_option linter.unusedVariables false
set_option linter.unusedSimpArgs false
namespace Go.Proofs.YthaeomdpaadilaaGreatDoor
open Go.RowKit
open Go.Lib hiding intOf
attribute [local go_sem ↓] Go.wp_at_zero Go.wp_at_succ
def kindC : Array Value := #[.string ⟨#[]⟩, .string ⟨#[98, 101, 103, 105, 110]⟩, .string ⟨#[114, 101, 97, 100]⟩, .string ⟨#[119, 114, 105, 116, 101]⟩, .string ⟨#[111, 107]⟩, .string ⟨#[102, 97, 105, 108]⟩, .string ⟨#[105, 110, 102, 111]⟩]
theorem kind_at (m : Nat) (h1 : 1 ≤ m) (h6 : m ≤ 6) : kindC[m]? = some (.string (kW (m : Int))) := by
 have h : m = 1 ∨ m = 2 ∨ m = 3 ∨ m = 4 ∨ m = 5 ∨ m = 6 := by omega
 rcases h with rfl | rfl | rfl | rfl | rfl | rfl <;> rfl
theorem rkinds_any (w : World) : Calls Tryz.prog 65 #[] w fun e w' => e = .returned (.slice (some ⟨w.heap.size, 0, none⟩) 7 7) ∧ w.alloc (.cells kindC 9) = w' := by
 unfold kindC
 go_enter Tryz.func65, Tryz.ntmps65
 go_wp2
 go_ret
 exact ⟨rfl, rfl⟩
set_option maxRecDepth 10000 in
set_option maxHeartbeats 4000000 in
theorem revmay_any (k : Int) (s y : ByteArray) (vk vn ln : Int) (w : World) (hs : s.size ≤ 65537) (hy : y.size ≤ 65537) :
  Calls Tryz.prog 40 #[.agg #[.int .i64 k, .string s, .string y, .int .i64 vk, .int .i64 vn, .int .i64 ln]] w fun e w' => e = .returned (.bool (evOk k s y vk vn)) ∧ Only [] w w' := by
 have HS := Lib.hid (fun w' => ris_any s w' hs)
 have HY := Lib.hid (fun w' => ris_any y w' hy)
 have HM := Lib.hid (fun w' => rmay_any vk vn w')
 obtain ⟨r, hr⟩ : ∃ r, r = evOk k s y vk vn := ⟨_, rfl⟩
 rw [← hr]
 obtain ⟨ns, hns⟩ : ∃ x, x = isName s := ⟨_, rfl⟩
 obtain ⟨ny, hny⟩ : ∃ x, x = isName y := ⟨_, rfl⟩
 obtain ⟨mv, hmv⟩ : ∃ x, x = mayB vk vn := ⟨_, rfl⟩
 unfold evOk at hr
 rw [← hns, ← hny, ← hmv] at hr
 rw [← hns] at HS
 rw [← hny] at HY
 rw [← hmv] at HM
 have HR := Lib.hid hr
 have HO := Lib.hid ((Only.refl [] w).alloc (.cells #[.int .i64 k, .string s, .string y, .int .i64 vk, .int .i64 vn, .int .i64 ln] 47))
 have HE := Lib.hid (Blk.made w 47 #[.int .i64 k, .string s, .string y, .int .i64 vk, .int .i64 vn, .int .i64 ln])
 clear hr hns hny hmv hs hy
 by_cases hk1 : k < 1
 ·have HK := Lib.hid (show kOk k = false from decide_eq_false (by omega))
  go_enter Tryz.func40, Tryz.ntmps40
  go_wp2
  go_ret
  exact ⟨by rw [HR.out, HK.out]; rfl, HO.out⟩
 by_cases hk6 : 6 < k
 ·have HK := Lib.hid (show kOk k = false from decide_eq_false (by omega))
  go_enter Tryz.func40, Tryz.ntmps40
  go_wp2
  go_ret
  exact ⟨by rw [HR.out, HK.out]; rfl, HO.out⟩
 have hcase : ((k == 2) = false ∧ (k == 3) = false ∧ (k != 2) = true ∧ (k != 3) = true ∧ r = (ns && (decide (y = ⟨#[]⟩) && decide (vk = 0 ∧ vn = 0)))) ∨ (k = 2 ∧ r = (ns && (ny && mv))) ∨ (k = 3 ∧ r = (ns && ((ny && mv) && decide (vk = 1)))) := by
  rw [HR.out, show kOk k = true from decide_eq_true (by omega)]
  by_cases h2 : k = 2
  ·subst h2; exact .inr (.inl ⟨rfl, by simp [kO]⟩)
  ·by_cases h3 : k = 3
   ·subst h3; exact .inr (.inr ⟨rfl, by simp [kO]; by_cases h : vk = 1 <;> simp [h]⟩)
   ·exact .inl ⟨by simp [h2], by simp [h3], by simp [h2], by simp [h3], by simp [kO, h2, h3]⟩
 clear HR
 rcases hcase with ⟨q1, q2, q3, q4, q5⟩ | ⟨rfl, q5⟩ | ⟨rfl, q5⟩
 all_goals
  have HQ := Lib.hid q5
  clear q5
  go_enter Tryz.func40, Tryz.ntmps40
  go_wp2_with fail
  refine (HS.out _).mono ?_
  rintro e w1 ⟨rfl, O1⟩
  have HO1 := Lib.hid (HO.out.trans O1)
  have bE1 := O1.blk HE.out (by simp)
  have lE := bE1.lt
  have f0 := bE1.at_ 0
  have f2 := bE1.at_ 2
  have f3 := bE1.at_ 3
  have f4 := bE1.at_ 4
  simp at f0 f2 f3 f4
  clear O1
  cases ns with
  | false =>
   go_wp2
   go_ret
   exact ⟨by rw [HQ.out]; rfl, HO1.out⟩
  | true => ?_
 ·by_cases hy0 : y = ⟨#[]⟩
  ·subst hy0
   by_cases h1 : vk = 0
   ·subst h1
    by_cases h2 : vn = 0
    ·subst h2
     go_wp2
     go_ret
     exact ⟨by rw [HQ.out]; rfl, HO1.out⟩
    ·have h2' : (vn == 0) = false := by simpa using h2
     have HX := Lib.hid h2
     clear h2
     go_wp2
     go_ret
     exact ⟨by rw [HQ.out]; simp [HX.out], HO1.out⟩
   ·have h1' : (vk == 0) = false := by simpa using h1
    have HX := Lib.hid h1
    clear h1
    go_wp2
    go_ret
    exact ⟨by rw [HQ.out]; simp [HX.out], HO1.out⟩
  ·have h0' : (y.toList == []) = false := (ev_ne (l := []) hy0).1
   have HX := Lib.hid hy0
   clear hy0
   go_wp2
   go_ret
   exact ⟨by rw [HQ.out]; simp [HX.out], HO1.out⟩
 ·clear hk1 hk6
  go_wp2_with fail
  refine (HY.out _).mono ?_
  rintro e w3 ⟨rfl, O3⟩
  have HO3 := Lib.hid (HO1.out.trans O3)
  have bE3 := O3.blk bE1 (by simp)
  clear f0 f2 f3 f4 lE O3
  have lE := bE3.lt
  have f0 := bE3.at_ 0
  have f3 := bE3.at_ 3
  have f4 := bE3.at_ 4
  simp at f0 f3 f4
  cases ny with
  | false =>
   go_wp2
   go_ret
   exact ⟨by rw [HQ.out]; rfl, HO3.out⟩
  | true =>
   go_wp2_with fail
   refine (HM.out _).mono ?_
   rintro e w4 ⟨rfl, O4⟩
   have HO4 := Lib.hid (HO3.out.trans O4)
   have bE4 := O4.blk bE3 (by simp)
   clear f0 f3 f4 lE O4
   have lE := bE4.lt
   have f0 := bE4.at_ 0
   simp at f0
   cases mv <;>
   ·go_wp2
    go_ret
    exact ⟨by rw [HQ.out]; rfl, HO4.out⟩
 ·clear hk1 hk6
  go_wp2_with fail
  refine (HY.out _).mono ?_
  rintro e w3 ⟨rfl, O3⟩
  have HO3 := Lib.hid (HO1.out.trans O3)
  have bE3 := O3.blk bE1 (by simp)
  clear f0 f2 f3 f4 lE O3
  have lE := bE3.lt
  have f0 := bE3.at_ 0
  have f3 := bE3.at_ 3
  have f4 := bE3.at_ 4
  simp at f0 f3 f4
  cases ny with
  | false =>
   go_wp2
   go_ret
   exact ⟨by rw [HQ.out]; rfl, HO3.out⟩
  | true =>
   go_wp2_with fail
   refine (HM.out _).mono ?_
   rintro e w4 ⟨rfl, O4⟩
   have HO4 := Lib.hid (HO3.out.trans O4)
   have bE4 := O4.blk bE3 (by simp)
   clear f0 f3 f4 lE O4
   have lE := bE4.lt
   have f0 := bE4.at_ 0
   have f3 := bE4.at_ 3
   simp at f0 f3
   cases mv with
   | false =>
    go_wp2
    go_ret
    exact ⟨by rw [HQ.out]; rfl, HO4.out⟩
   | true =>
    by_cases h1 : vk = 1
    ·subst h1
     go_wp2
     go_ret
     exact ⟨by rw [HQ.out]; rfl, HO4.out⟩
    ·have h1' : (vk == 1) = false := by simpa using h1
     have HX := Lib.hid h1
     clear h1
     go_wp2
     go_ret
     exact ⟨by rw [HQ.out]; simp [HX.out], HO4.out⟩
end Go.Proofs.YthaeomdpaadilaaGreatDoor

set_option linter.unusedVariables false
set_option linter.unusedSimpArgs false
namespace Go.Proofs.YthaeomdpaadilaaGreatDoor
open Go.RowKit
open Go.Lib hiding intOf
attribute [local go_sem ↓] Go.wp_at_zero Go.wp_at_succ
set_option maxHeartbeats 4000000 in
theorem rless_any (a b : ByteArray) (w : World) (ha : a.size ≤ 65537) (hb : b.size ≤ 65537) :
  Calls Tryz.prog 54 #[.string a, .string b] w fun e w' => e = .returned (.bool (lessL (runesL (by_ a)) (runesL (by_ b)))) ∧ Only [] w w' := by
 have HA := Lib.hid (rrunes02_any a w ha)
 have HB := Lib.hid (fun w' => rrunes02_any b w' hb)
 have hxl := runes_len (by_ a)
 have hyl := runes_len (by_ b)
 rw [by_length] at hxl hyl
 obtain ⟨x, hx⟩ : ∃ x, x = runesL (by_ a) := ⟨_, rfl⟩
 obtain ⟨y, hy⟩ : ∃ y, y = runesL (by_ b) := ⟨_, rfl⟩
 rw [← hx] at HA hxl
 rw [← hy] at HB hyl
 rw [← hx, ← hy]
 obtain ⟨n, hn⟩ : ∃ n, n = x.length := ⟨_, rfl⟩
 obtain ⟨m, hm⟩ : ∃ m, m = y.length := ⟨_, rfl⟩
 rw [← hn] at HA hxl
 rw [← hm] at HB hyl
 obtain ⟨R, hR⟩ : ∃ R, R = lessL x y := ⟨_, rfl⟩
 rw [← hR]
 have HN := Lib.hid hn
 have HM := Lib.hid hm
 have HR := Lib.hid hR
 clear hx hy hn hm hR
 go_enter Tryz.func54, Tryz.ntmps54
 go_wp2_with fail
 refine (HA.out).mono ?_
 rintro e w1 ⟨hO1, V1, rfl, hown1⟩
 have HO1 := Lib.hid hO1
 obtain ⟨A1, c1, rfl, -, -, -, hrow1⟩ := own_row hown1
 have HROW1 := Lib.hid hrow1
 clear hO1 hown1 hrow1
 go_wp2_with fail
 refine (HB.out w1).mono ?_
 rintro e w2 ⟨hO2, V2, rfl, hown2⟩
 have HO2 := Lib.hid (HO1.out.trans hO2)
 have HX := Lib.hid (HROW1.out.only hO2 (by simp))
 obtain ⟨A2, c2, rfl, -, -, -, hrow2⟩ := own_row hown2
 have HY := Lib.hid hrow2
 clear hO2 hown2 hrow2 HROW1
 go_wp2_with fail
 go_loopw [7] (fun iv wr => ∃ (k q : Nat), iv = .int .i64 k ∧ k ≤ n ∧ k ≤ m ∧ Hid (R = lessL (x.drop k) (y.drop k)) ∧ Hid (w2.drewN q = wr)) (fun iv _ => n - (intOf iv).toNat)
 case atStart => exact ⟨0, 0, rfl, by omega, by omega, HR, Lib.hid rfl⟩
 case round =>
  obtain ⟨k, q, rfl, hk1, hk2, HL, hw⟩ := hrel
  by_cases hlt : k < n ∧ k < m
  ·obtain ⟨l1, l2⟩ := hlt
   have i1 : (k : Int) < (n : Int) := by omega
   have i2 : (k : Int) < (m : Int) := by omega
   have i0 : (0 : Int) ≤ (k : Int) := Int.natCast_nonneg _
   obtain ⟨r, hr⟩ : ∃ r, x[k]? = some r := ⟨_, List.getElem?_eq_getElem (by rw [← HN.out]; exact l1)⟩
   obtain ⟨z, hz⟩ : ∃ z, y[k]? = some z := ⟨_, List.getElem?_eq_getElem (by rw [← HM.out]; exact l2)⟩
   have HDR := Lib.hid (less_drop x y k r z hr hz)
   obtain ⟨b1, o1, rfl, -, hbw1, hc1⟩ := HX.out.open_ (k := k) (by rw [i64s_len, ← HN.out]; exact l1)
   obtain ⟨b2, o2, rfl, -, hbw2, hc2⟩ := HY.out.open_ (k := k) (by rw [i64s_len, ← HM.out]; exact l2)
   have g1 : wr.cell? ⟨b1, o1 + k, none⟩ = some (.int .i64 (r : Int)) := by rw [← hw.out]; exact hc1 _ _ (i64s_at x k r hr)
   have g2 : wr.cell? ⟨b2, o2 + k, none⟩ = some (.int .i64 (z : Int)) := by rw [← hw.out]; exact hc2 _ _ (i64s_at y k z hz)
   have hwk : IntKind.i64.wrap ((k : Int) + 1) = (k : Int) + 1 := IntWalk.i64_in _ (by omega)
   clear hr hz hc1 hc2
   by_cases hrz : r = z
   ·subst hrz
    have hne : ((r : Int) != (r : Int)) = false := by simp
    have HL2 : Hid (R = lessL (x.drop (k + 1)) (y.drop (k + 1))) := Lib.hid (by rw [HL.out, HDR.out, if_pos rfl])
    clear HL HDR
    go_wp2_with fail
    go_quiet (fail)
    go_wp2
    go_roundw
    case rel =>
     refine ⟨k + 1, q + nq, by go_num, by omega, by omega, HL2, Lib.hid ?_⟩
     rw [← hw.out, World.drewN_drewN]
    case measure => simp [intOf]; omega
   ·have hne : ((r : Int) != (z : Int)) = true := by simp; omega
    have HF : Hid (R = decide (r < z)) := Lib.hid (by rw [HL.out, HDR.out, if_neg hrz])
    have HOW := Lib.hid (HO2.out.drewN q)
    rw [hw.out] at HOW
    clear HL HDR hrz
    go_wp2_with fail
    go_quiet (fail)
    have g1' : (wr.drewN nq).cell? ⟨b1, o1 + k, none⟩ = some (.int .i64 (r : Int)) := g1
    have g2' : (wr.drewN nq).cell? ⟨b2, o2 + k, none⟩ = some (.int .i64 (z : Int)) := g2
    have HOW2 := Lib.hid (HOW.out.drewN nq)
    generalize wr.drewN nq = w5 at *
    clear g1 g2
    go_wp2_with fail
    go_quiet (fail)
    go_wp2
    go_ret
    exact ⟨by first | (rw [HF.out]; done) | (rw [HF.out]; rfl) | (rw [HF.out]; simp), HOW2.out.drewN _⟩
  ·have HF : Hid (R = decide (n < m)) := Lib.hid (by
    rw [HL.out, less_end (by
     by_cases h : k < n
     ·right; exact List.drop_of_length_le (by rw [← HM.out]; omega)
     ·left; exact List.drop_of_length_le (by rw [← HN.out]; omega)), List.length_drop, List.length_drop, ← HN.out, ← HM.out]
    by_cases h : n < m
    ·rw [decide_eq_true h, decide_eq_true (by omega)]
    ·rw [decide_eq_false h, decide_eq_false (by omega)])
   have hguard : (decide ((k : Int) < (n : Int)) = false ∧ decide (k < n) = false) ∨ ((k : Int) < (n : Int) ∧ decide ((k : Int) < (m : Int)) = false ∧ decide (k < m) = false) := by
    by_cases h : k < n
    ·right
     exact ⟨by omega, decide_eq_false (by omega), decide_eq_false (by omega)⟩
    ·left
     exact ⟨decide_eq_false (by omega), decide_eq_false (by omega)⟩
   have HOW := Lib.hid (HO2.out.drewN q)
   rw [hw.out] at HOW
   clear hlt HL
   rcases hguard with ⟨h1, h2⟩ | ⟨h1, h2, h3⟩
   ·go_wp2
    go_ret
    exact ⟨by first | (rw [HF.out]; done) | (rw [HF.out]; rfl) | (rw [HF.out]; simp), HOW.out⟩
   ·go_wp2
    go_ret
    exact ⟨by first | (rw [HF.out]; done) | (rw [HF.out]; rfl) | (rw [HF.out]; simp), HOW.out⟩
end Go.Proofs.YthaeomdpaadilaaGreatDoor

set_option linter.unusedVariables false
set_option linter.unusedSimpArgs false
namespace Go.Proofs.YthaeomdpaadilaaGreatDoor
open Go.RowKit
section
variable {P : Program} {ops : Array Oper} {Q : Exit → Act → World → Prop} {md : Region.Mode} {S : Array Bool → World → Prop}
theorem timed_fork {i j : Nat} {oi oj : Oper} {fuel : Nat} {listed : Array Bool} {a : Act} {w : World} (hr : Region.ready md ops listed = [i, j]) (hoi : ops[i]? = some oi) (hoj : ops[j]? = some oj)
  (hi : ∀ K' : Act → World → Prop, Shut (∀ a w, S (listed.setIfInBounds i true) w → (S (listed.setIfInBounds i true) w → wpAnyT P md ops Q S fuel (listed.setIfInBounds i true) a w) → K' a w) →
   if Region.wanted oi (yielded ops a.tmps) = true then Oper.wp P oi a w K' Q else K' (a.put oi.dst undef) w)
  (hj : ∀ K' : Act → World → Prop, Shut (∀ a w, S (listed.setIfInBounds j true) w → (S (listed.setIfInBounds j true) w → wpAnyT P md ops Q S fuel (listed.setIfInBounds j true) a w) → K' a w) →
   if Region.wanted oj (yielded ops a.tmps) = true then Oper.wp P oj a w K' Q else K' (a.put oj.dst undef) w) : S listed w → wpAnyT P md ops Q S (fuel + 1) listed a w := by
 intro _
 refine ⟨fun h0 => (by rw [hr] at h0; cases h0), fun k hk => ?_⟩
 rw [hr] at hk
 rcases List.mem_cons.1 hk with rfl | hk
 ·exact wpOp_step hoi (fun K' hK => hi K' (fun a w hS hW => hK a w ⟨hS, hW hS⟩))
 ·obtain rfl := List.mem_singleton.1 hk
  exact wpOp_step hoj (fun K' hK => hj K' (fun a w hS hW => hK a w ⟨hS, hW hS⟩))
end
theorem Row.drop {w : World} {B g off : Nat} {xs : List Value} (h : Row w B (some ⟨g, off, none⟩) xs) (k : Nat) : Row w B (some ⟨g, off + k, none⟩) (xs.drop k) := by
 rcases h with h | ⟨b, o, he, hb, hw, hc⟩
 ·subst h
  exact .inl (by simp)
 ·obtain ⟨rfl, rfl⟩ : g = b ∧ off = o := by
   have := Option.some.inj he
   exact ⟨congrArg Addr.block this, congrArg Addr.off this⟩
  refine .inr ⟨g, off + k, rfl, hb, hw, fun j u hu => ?_⟩
  rw [List.getElem?_drop] at hu
  rw [Nat.add_assoc]
  exact hc (k + j) u hu
theorem Blk.row {w : World} {g : Nat} {t : TypeId} {cs : Array Value} (h : Blk w g t cs) : Row w (g + 1) (some ⟨g, 0, none⟩) cs.toList :=
 .inr ⟨g, 0, rfl, by omega, h.lt, fun j u hu => by rw [Nat.zero_add, h.at_ j]; simpa using hu⟩
end Go.Proofs.YthaeomdpaadilaaGreatDoor
