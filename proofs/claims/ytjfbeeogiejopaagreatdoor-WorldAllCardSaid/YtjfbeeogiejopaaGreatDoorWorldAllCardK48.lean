/- Parts. -/
import Derived.Test.YtjfbeeogiejopaaGreatDoorWorldAllCardK47
import Derived.Test.YtjfbeeogiejopaaGreatDoorWorldAllCardK42
import Derived.Test.YtjfbeeogiejopaaGreatDoorWorldAllCardK27
import Derived.Test.YtjfbeeogiejopaaGreatDoorWorldAllCardK19
import Derived.Test.YtjfbeeogiejopaaGreatDoorWorldAllCardK24
set_option maxRecDepth 10000
set_option maxHeartbeats 16000000
set_option linter.unusedVariables false
set_option linter.unusedSimpArgs false
namespace Go.Proofs.YtjfbeeogiejopaaGreatDoor
open Go.RowKit
open Go.Lib hiding intOf
attribute [local go_sem ↓] Go.wp_at_zero Go.wp_at_succ


theorem own_nil0 {w : World} {base : Nat} {e : TypeId} {size : Nat} {A : Option Addr} {n c m : Nat} {xs : List Value} (h : w.ownsRow base e size (.slice A n c) m xs) (hA : A = none) : n = 0 ∧ c = 0 := by
 subst hA;rcases h.2 with ⟨e, -⟩ | ⟨g1, cp1, cu1, e, -⟩
 ·injection e with e1 e2 e3;exact ⟨e2, e3⟩
 ·injection e with e1 e2 e3
  cases e1
def ex16 : ByteArray := ⟨#[98, 101, 103, 105, 110, 32, 115, 10, 105, 110, 102, 111, 32, 115]⟩
def hist16 : Hst := ⟨[⟨#[115]⟩], [], [⟨0, 3, []⟩]⟩
def evs16 : List Ev6 := [⟨1, ⟨#[115]⟩, ⟨#[]⟩, 0, 0, 1⟩, ⟨6, ⟨#[115]⟩, ⟨#[]⟩, 0, 0, 2⟩]
theorem ex16_log : logParse ex16 = (evs16, 0, 0) := by kernel_rfl
theorem ex16_rows : (linesOf (by_ ex16)).all (fun x => decide (x.length ≤ 65535)) = true := by kernel_rfl
theorem ex16_h : pairH evs16 = hist16 := by kernel_rfl
theorem ex16_e : pairE evs16 = 0 := by kernel_rfl
theorem ex16_l : pairL evs16 = 0 := by kernel_rfl
theorem ex16_show : showR ex16 = (hist16, 0, 0) := by
 unfold showR;rw [ex16_log];dsimp only;rw [if_pos rfl, ex16_h, ex16_e, ex16_l]
theorem ex16_may : mayH hist16 = true := by decide +kernel
theorem ex16_c : firstWC hist16 = [false] := by decide +kernel
theorem ex16_v : firstWL hist16 = [] := by decide +kernel
theorem ex16_n1 : nextW hist16 ⟨[false], []⟩ = some ⟨[true], []⟩ := by kernel_rfl
theorem ex16_n2 : nextW hist16 ⟨[true], []⟩ = none := by kernel_rfl
theorem ex16_n : countW hist16 = 2 := by decide +kernel
theorem ex16_int : HInt hist16 := by
 intro t ht x hx;simp [hist16] at ht;subst ht;simp at hx
theorem ex16_small : HSmall hist16 where
 s := fun x hx => by
  simp [hist16] at hx;subst hx
  decide
 k := fun x hx => by simp [hist16] at hx
 ns := by decide
 nk := by decide
 nl := by decide
 no := fun t ht => by
  simp [hist16] at ht;subst ht;simp
theorem works16_any (w : World) (hT : UTabs w) (hM : MLen w) (hV : Verbs w) :
  Calls Tryz.prog 28 #[] w fun e w' => e = .returned (.bool true) ∧ Only [] w w' := by
 have HP := Hd (fun w' (O : Only [] w w') => sparse_any ex16 w' (by decide) (fun x hx => by simpa using List.all_eq_true.1 ex16_rows x hx) (by rw [ex16_log]; decide) (fun x hx => by
  rw [ex16_log] at hx;simp [evs16] at hx;rcases hx with rfl | rfl <;> exact ⟨by decide, by decide⟩) (hT.only O) (hM.only O) (hV.only O))
 have HI := Hd (fun (A0 A1 A2 : Option Addr) (B : Nat) w' (hA : HAt w' B A0 A1 A2 hist16) (O : Only [] w w') => (⟨hA, rfl, rfl, rfl, ex16_small, hT.only O⟩ : HIn w' B A0 A1 A2 1 0 1 hist16));have HFI := Hd (fun (A0 A1 A2 : Option Addr) (c0 c1 c2 B : Nat) w' (hA : HIn w' B A0 A1 A2 1 0 1 hist16) => wfirst_any A0 A1 A2 1 0 1 c0 c1 c2 B hist16 w' hA);have HNX := Hd (fun (x : Wld) (Ac Al : Option Addr) (nc nl cc cl Bc Bl : Nat) (A0 A1 A2 : Option Addr) (c0 c1 c2 B : Nat) w' (hA : HIn w' B A0 A1 A2 1 0 1 hist16) (hc : Row w' Bc Ac (x.c.map Value.bool)) (hl : Row w' Bl Al (edgeC x.l)) (hcl : x.c.length = nc) (hll : x.l.length = nl) (hM : nl ≤ 100000) (hMc : nc ≤ 100000) (hAc : Ac = none → nc = 0 ∧ cc = 0) (hAl : Al = none → nl = 0 ∧ cl = 0) => wnext_any A0 A1 A2 Ac Al 1 0 1 nc nl c0 c1 c2 cc cl B Bc Bl hist16 x w' hA ex16_int hc hl hcl hll hM hMc hAc hAl);have HCN := Hd (fun (A0 A1 A2 : Option Addr) (c0 c1 c2 B : Nat) w' (hA : HIn w' B A0 A1 A2 1 0 1 hist16) => wcount_any A0 A1 A2 1 0 1 c0 c1 c2 B hist16 w' hA ex16_int);rw [ex16_show] at HP;rw [ex16_c, ex16_v] at HFI;rw [ex16_n] at HCN;have HE : Hid (errH hist16 = 0) := Hd (errH_yes ex16_may);rw [HE.out] at HFI;unfold ex16 at HP;unfold hval at HFI HNX HCN;clear hT hM hV HE;go_enter Tryz.func28, Tryz.ntmps28;go_wp2_with fail
 refine (HP.out _ (Only.refl [] w)).mono ?_;rintro e w2 ⟨B0, B1, B2, d0, d1, d2, ⟨rfl, hA⟩, O2⟩;have HA := Hd hA;have HO2 := Hd O2;clear hA O2 HP;rw [show hist16.ss.length = 1 from rfl, show hist16.ks.length = 0 from rfl, show hist16.l.length = 1 from rfl];go_upto_region 2 with (fail)
 have HO3 := Hd (HO2.out.alloc (.cells #[.slice B0 1 d0, .slice B1 0 d1, .slice B2 1 d2] 25));have HB3 := Hd (Blk.made w2 25 #[.slice B0 1 d0, .slice B1 0 d1, .slice B2 1 d2]);have HI3 := Hd (HI.out B0 B1 B2 w2.heap.size _ (HA.out.only ((Only.refl [] w2).alloc (.cells #[.slice B0 1 d0, .slice B1 0 d1, .slice B2 1 d2] 25)) (by simp)) HO3.out);clear HA HO2 HI;generalize (w2.alloc (.cells #[.slice B0 1 d0, .slice B1 0 d1, .slice B2 1 d2] 25)) = w3 at *;generalize hg2 : w2.heap.size = g2 at *;have lHB_ := HB3.out.lt;have y0 := HB3.out.at_ 0;have y1 := HB3.out.at_ 1;have y2 := HB3.out.at_ 2;simp at y0 y1 y2;go_wp2_with fail
 refine (HFI.out _ _ _ _ _ _ _ _ HI3.out).mono ?_;rintro e w4 ⟨V, V2, ⟨rfl, hv, hv2⟩, O4⟩;clear lHB_ y0 y1 y2;obtain ⟨AV, cV, rfl, -, -, -, -⟩ := own_row hv;obtain ⟨AX, cX, rfl, -, -, -, -⟩ := own_row hv2;have HO4 := Hd (HO3.out.trans O4);have HB4 := Hd (O4.blk HB3.out (by simp));have HI4 := Hd (HI3.out.same O4);clear HO3 HB3 HI3;clear O4;rw [show ([false] : List Bool).length = 1 from rfl, show ([] : List V2).length = 0 from rfl] at *;go_upto_region 3 with (fail)
 have HW5 := Hd (Blk.made w4 51 #[.slice AV 1 cV, .slice AX 0 cX]);have O5 : Only [] w4 (w4.alloc (.cells #[.slice AV 1 cV, .slice AX 0 cX] 51)) := (Only.refl [] w4).alloc _;have HV4 := Hd hv;have HX4 := Hd hv2;have HO5 := Hd (HO4.out.trans O5);have HB5 := Hd (O5.blk HB4.out (by simp));have HI5 := Hd (HI4.out.same O5);have HV5 := Hd (own_only HV4.out O5 (by simp));have HX5 := Hd (own_only HX4.out O5 (by simp));clear HO4 HB4 HI4 HV4 HX4;clear O5 hv hv2;generalize (w4.alloc (.cells #[.slice AV 1 cV, .slice AX 0 cX] 51)) = w5 at *;generalize w4.heap.size = gw at *;have HNX5 := Hd (HNX.out ⟨[false], []⟩ AV AX 1 0 cV cX _ _ B0 B1 B2 d0 d1 d2 _ _ HI5.out (own_row_at HV5.out).1 (own_row_at HX5.out).1 rfl rfl (by omega) (by omega) (own_nil0 HV5.out) (own_nil0 HX5.out));rw [ex16_n1] at HNX5;dsimp only [Option.getD_some, Option.isSome_some] at HNX5;have lHB_ := HB5.out.lt;have y0 := HB5.out.at_ 0;have y1 := HB5.out.at_ 1;have y2 := HB5.out.at_ 2;have lHW_ := HW5.out.lt;have x0 := HW5.out.at_ 0;have x1 := HW5.out.at_ 1;simp at y0 y1 y2 x0 x1;go_wp2_with fail
 refine (HNX5.out).mono ?_;rintro e w6 ⟨V6, X6, ⟨rfl, hv, hv2⟩, O6⟩;clear lHB_ lHW_ y0 y1 y2 x0 x1;obtain ⟨AY, cY, rfl, -, -, -, -⟩ := own_row hv;obtain ⟨AZ, cZ, rfl, -, -, -, -⟩ := own_row hv2;have HO6 := Hd (HO5.out.trans O6);have HB6 := Hd (O6.blk HB5.out (by simp));have HI6 := Hd (HI5.out.same O6);have HV6 := Hd (own_only HV5.out O6 (by simp));have HX6 := Hd (own_only HX5.out O6 (by simp));have HW6 := Hd (O6.blk HW5.out (by simp));clear HO5 HB5 HI5 HV5 HX5 HW5;have HY6 := Hd hv;have HZ6 := Hd hv2;rw [show ([true] : List Bool).length = 1 from rfl] at *;clear O6 hv hv2 HNX5;go_upto_region 4 with (fail)
 have HQ7 := Hd (Blk.made w6 51 #[.slice AY 1 cY, .slice AZ ([] : List V2).length cZ]);have O7 : Only [] w6 (w6.alloc (.cells #[.slice AY 1 cY, .slice AZ ([] : List V2).length cZ] 51)) := (Only.refl [] w6).alloc _;have HO7 := Hd (HO6.out.trans O7);have HB7 := Hd (O7.blk HB6.out (by simp));have HI7 := Hd (HI6.out.same O7);have HV7 := Hd (own_only HV6.out O7 (by simp));have HX7 := Hd (own_only HX6.out O7 (by simp));have HW7 := Hd (O7.blk HW6.out (by simp));have HY7 := Hd (own_only HY6.out O7 (by simp));have HZ7 := Hd (own_only HZ6.out O7 (by simp));clear HO6 HB6 HI6 HV6 HX6 HW6 HY6 HZ6;clear O7;rw [show ([] : List V2).length = 0 from rfl] at *;generalize (w6.alloc (.cells #[.slice AY 1 cY, .slice AZ 0 cZ] 51)) = w7 at *;generalize w6.heap.size = gq at *;have HNX7 := Hd (HNX.out ⟨[true], []⟩ AY AZ 1 0 cY cZ _ _ B0 B1 B2 d0 d1 d2 _ _ HI7.out (own_row_at HY7.out).1 (own_row_at HZ7.out).1 rfl rfl (by omega) (by omega) (own_nil0 HY7.out) (own_nil0 HZ7.out));rw [ex16_n2] at HNX7;dsimp only [Option.getD_none, Option.isSome_none] at HNX7;have lHB_ := HB7.out.lt;have y0 := HB7.out.at_ 0;have y1 := HB7.out.at_ 1;have y2 := HB7.out.at_ 2;have lHQ_ := HQ7.out.lt;have q0 := HQ7.out.at_ 0;have q1 := HQ7.out.at_ 1;simp at y0 y1 y2 q0 q1;go_wp2_with fail
 refine (HNX7.out).mono ?_;rintro e w8 ⟨V8, X8, ⟨rfl, hv, hv2⟩, O8⟩;clear lHB_ lHQ_ y0 y1 y2 q0 q1;obtain ⟨AP, cP, rfl, -, -, -, -⟩ := own_row hv;obtain ⟨AR, cR, rfl, -, -, -, -⟩ := own_row hv2;have HO8 := Hd (HO7.out.trans O8);have HB8 := Hd (O8.blk HB7.out (by simp));have HI8 := Hd (HI7.out.same O8);have HV8 := Hd (own_only HV7.out O8 (by simp));have HX8 := Hd (own_only HX7.out O8 (by simp));have HW8 := Hd (O8.blk HW7.out (by simp));have HY8 := Hd (own_only HY7.out O8 (by simp));have HZ8 := Hd (own_only HZ7.out O8 (by simp));have HQ8 := Hd (O8.blk HQ7.out (by simp));clear HO7 HB7 HI7 HV7 HX7 HW7 HY7 HZ7 HQ7;clear O8 hv hv2 HNX7 HNX;go_upto_region 5 with (fail)
 have O9 : Only [] w8 (w8.alloc (.cells #[.slice AP ([] : List Bool).length cP, .slice AR ([] : List V2).length cR] 51)) := (Only.refl [] w8).alloc _;have HO9 := Hd (HO8.out.trans O9);have HB9 := Hd (O9.blk HB8.out (by simp));have HI9 := Hd (HI8.out.same O9);have HV9 := Hd (own_only HV8.out O9 (by simp));have HX9 := Hd (own_only HX8.out O9 (by simp));have HW9 := Hd (O9.blk HW8.out (by simp));have HY9 := Hd (own_only HY8.out O9 (by simp));have HZ9 := Hd (own_only HZ8.out O9 (by simp));have HQ9 := Hd (O9.blk HQ8.out (by simp));clear HO8 HB8 HI8 HV8 HX8 HW8 HY8 HZ8 HQ8;clear O9;generalize (w8.alloc (.cells #[.slice AP ([] : List Bool).length cP, .slice AR ([] : List V2).length cR] 51)) = w9 at *;generalize w8.heap.size = gp at *;obtain ⟨b1, o1, rfl, -, hb1, hc1⟩ := (own_row_at HV9.out).1.open_ (k := 0) (by simp);have v0 := hc1 0 (.bool false) rfl;obtain ⟨b2, o2, rfl, -, hb2, hc2⟩ := (own_row_at HY9.out).1.open_ (k := 0) (by simp);have u0 := hc2 0 (.bool true) rfl;rw [Nat.add_zero] at v0 u0;clear hc1 hc2;have lHB_ := HB9.out.lt;have y0 := HB9.out.at_ 0;have y1 := HB9.out.at_ 1;have y2 := HB9.out.at_ 2;have lHW_ := HW9.out.lt;have x0 := HW9.out.at_ 0;have x1 := HW9.out.at_ 1;have lHQ_ := HQ9.out.lt;have q0 := HQ9.out.at_ 0;have q1 := HQ9.out.at_ 1;simp at y0 y1 y2 x0 x1 q0 q1;go_wp2_with fail
 refine (HCN.out _ _ _ _ _ _ _ _ HI9.out).mono ?_;rintro e wa ⟨rfl, Oa⟩;have HZ := Hd (HO9.out.trans Oa);go_wp2
 go_ret
 exact ⟨rfl, HZ.out⟩
def cutH (G : Hst) : Hst := if mayH G = true ∧ (6 < infosN G ∨ 5 < (lostX G.l).length) then ⟨G.ss, G.ks, []⟩ else G
def few16 (h : Hst) : Hst := cutH (fewH h)
theorem cutH_l (G : Hst) : (cutH G).l = G.l ∨ (cutH G).l = [] := by unfold cutH; split <;> simp
theorem few16_bd {h : Hst} (hm : mayH (few16 h) = true) : infosN (few16 h) ≤ 6 ∧ (lostX (few16 h).l).length ≤ 5 := by
 unfold few16 at hm ⊢;generalize fewH h = G at *
 by_cases hc : mayH G = true ∧ (6 < infosN G ∨ 5 < (lostX G.l).length)
 ·have e : cutH G = ⟨G.ss, G.ks, []⟩ := by unfold cutH; rw [if_pos hc]
  rw [e];simp [infosN, whichL, lostX, plsL]
 ·have e : cutH G = G := by unfold cutH; rw [if_neg hc]
  rw [e] at hm ⊢;exact ⟨Nat.le_of_not_lt fun h1 => hc ⟨hm, .inl h1⟩, Nat.le_of_not_lt fun h1 => hc ⟨hm, .inr h1⟩⟩
theorem cutH_int {G : Hst} (h : HInt G) : HInt (cutH G) := by
 intro t ht;rcases cutH_l G with e | e
 ·rw [e] at ht; exact h t ht
 ·rw [e] at ht; cases ht
theorem HIn.noL {w : World} {B : Nat} {A0 A1 A2 : Option Addr} {n0 n1 n2 : Nat} {G : Hst} (h : HIn w B A0 A1 A2 n0 n1 n2 G) : HIn w B A0 A1 none n0 n1 0 ⟨G.ss, G.ks, []⟩ :=
 ⟨⟨h.at_.r0, h.at_.r1, ⟨[], rfl, .inl rfl, fun x hx => by cases hx⟩⟩, h.n0, h.n1, rfl, ⟨h.sm.s, h.sm.k, h.sm.ns, h.sm.nk, Nat.zero_le _, fun t ht => by cases ht⟩, h.u⟩
theorem few16_core (A0 A1 A2 : Option Addr) (n0 n1 n2 c0 c1 c2 : Nat) (G : Hst) (w : World)
  (HF : ∀ w', Only [] w w' → Calls Tryz.prog 9 #[.agg #[.slice A0 n0 c0, .slice A1 n1 c1, .slice A2 n2 c2]] w' fun e w'' => ∃ B0 B1 B2 d0 d1 d2, (e = .returned (.agg #[.slice B0 G.ss.length d0, .slice B1 G.ks.length d1, .slice B2 G.l.length d2]) ∧ HIn w'' w''.heap.size B0 B1 B2 G.ss.length G.ks.length G.l.length G) ∧ Only [] w' w'')
  (hT : UTabs w) :
  Calls Tryz.prog 22 #[.agg #[.slice A0 n0 c0, .slice A1 n1 c1, .slice A2 n2 c2]] w fun e w' => ∃ B0 B1 B2 d0 d1 d2, (e = .returned (.agg #[.slice B0 (cutH G).ss.length d0, .slice B1 (cutH G).ks.length d1, .slice B2 (cutH G).l.length d2]) ∧ HIn w' w'.heap.size B0 B1 B2 (cutH G).ss.length (cutH G).ks.length (cutH G).l.length (cutH G)) ∧ Only [] w w' := by
 have HFH := Hd HF;clear HF;have HT := Hd hT;have HO1 := Hd (((Only.refl [] w).alloc (.cells #[.slice A0 n0 c0, .slice A1 n1 c1, .slice A2 n2 c2] 25)).alloc (.cells #[.slice none 0 0, .slice none 0 0, .slice none 0 0] 25));have HB1 := Hd ((Blk.made w 25 #[.slice A0 n0 c0, .slice A1 n1 c1, .slice A2 n2 c2]).alloc (.cells #[.slice none 0 0, .slice none 0 0, .slice none 0 0] 25));have HR1 := Hd (Blk.made (w.alloc (.cells #[.slice A0 n0 c0, .slice A1 n1 c1, .slice A2 n2 c2] 25)) 25 #[.slice none 0 0, .slice none 0 0, .slice none 0 0]);simp only [World.size_alloc] at HR1;clear hT;go_enter Tryz.func22, Tryz.ntmps22;go_upto_region 1 with (fail)
 generalize ((w.alloc (.cells #[.slice A0 n0 c0, .slice A1 n1 c1, .slice A2 n2 c2] 25)).alloc (.cells #[.slice none 0 0, .slice none 0 0, .slice none 0 0] 25)) = w1 at *;generalize hgr : w.heap.size + 1 = gr at *;generalize hgg : w.heap.size = g at *;have lHB_ := HB1.out.lt;have y0 := HB1.out.at_ 0;have y1 := HB1.out.at_ 1;have y2 := HB1.out.at_ 2;simp at y0 y1 y2;go_wp2_with fail
 refine (HFH.out _ HO1.out).mono ?_;rintro e w2 ⟨B0, B1, B2, d0, d1, d2, ⟨rfl, hI⟩, O2⟩;clear lHB_ y0 y1 y2;have HI2 := Hd hI;have HO2 := Hd (HO1.out.trans O2);have HB2 := Hd (O2.blk HB1.out (by simp));have HR2 := Hd (O2.blk HR1.out (by simp));clear HO1 HB1 HR1;clear hI O2 HFH;go_upto_region 2 with (refine wpList_store_blk rfl 25 (.tmp 1) (.tmp 4) rfl g 25 _ #[.slice B0 G.ss.length d0, .slice B1 G.ks.length d1, .slice B2 G.l.length d2] rfl rfl HB2.out rfl (by kernel_rfl) (by kernel_rfl) ?_; intro w4 hb4 o4; have HB4 := Hd hb4; have HR4 := Hd (o4.blk HR2.out (by simp; omega)); have HO4 := Hd (HO2.out.step o4 (fun i hi hl => by simp at hi; omega)); have HI4 := Hd (HI2.out.past HB2.out o4 (HT.out.only HO4.out)); clear hb4 o4; clear HI2 HB2 HO2 HR2)
 have HMY := Hd (refmay_any B0 B1 B2 _ _ _ d0 d1 d2 _ G w4 HI4.out);unfold hval at HMY;have lHB_ := HB4.out.lt;have y0 := HB4.out.at_ 0;have y1 := HB4.out.at_ 1;have y2 := HB4.out.at_ 2;simp at y0 y1 y2
 cases hm : mayH G with
 | false =>
  have HE : Hid (cutH G = G) := Hd (by unfold cutH; rw [if_neg (by rw [hm]; simp)]);rw [errH_not hm] at HMY;clear hm;go_wp2_with fail
  refine (HMY.out).mono ?_;rintro e w5 ⟨rfl, O5⟩;clear lHB_ y0 y1 y2;have HO5 := Hd (HO4.out.trans O5);have HB5 := Hd (O5.blk HB4.out (by simp));have HR5 := Hd (O5.blk HR4.out (by simp));have HI5 := Hd (HI4.out.same O5);clear HO4 HB4 HR4 HI4;clear O5 HMY;have lHB_ := HB5.out.lt;have y0 := HB5.out.at_ 0;have y1 := HB5.out.at_ 1;have y2 := HB5.out.at_ 2;simp at y0 y1 y2;go_upto_region 4 with (fail)
  go_wp2_with (refine wpList_store_blk rfl 25 (.tmp 2) (.tmp 21) rfl gr 25 _ #[.slice B0 G.ss.length d0, .slice B1 G.ks.length d1, .slice B2 G.l.length d2] rfl rfl HR5.out rfl (by kernel_rfl) (by kernel_rfl) ?_; intro w9 hb9 o9; have HR9 := Hd hb9; have HO9 := Hd (HO5.out.step o9 (fun i hi hl => by simp at hi; omega)); have HI9 := Hd (HI5.out.past HR5.out o9 (HT.out.only HO9.out)); clear hb9 o9)
  refine bodyPost_ret (results_row1 Tryz.results22 _ _ gr 25 #[.slice B0 G.ss.length d0, .slice B1 G.ks.length d1, .slice B2 G.l.length d2] _ rfl HR9.out Tryz.underlying25 rfl (by kernel_rfl)) rfl ?_;rw [HE.out];refine ⟨B0, B1, B2, d0, d1, d2, ⟨rfl, ?_⟩, HO9.out⟩;exact HI9.out
 | true =>
  rw [errH_yes hm] at HMY

  have HIN := Hd (fun w' (O : Only [] w4 w') => rinfos_any B0 B1 B2 G.ss.length G.ks.length G.l.length d0 d1 d2 _ G w' (HI4.out.same O).at_.r2 rfl HI4.out.sm.nl);have HLS := Hd (fun w' (O : Only [] w4 w') => rlost_any B0 B1 B2 G.ss.length G.ks.length G.l.length d0 d1 d2 _ G w' (HI4.out.same O).at_.r2 rfl HI4.out.sm.nl HI4.out.sm.no);rw [lostP_eq, List.length_map] at HLS;have hni : (whichL (fun t : Tx => decide (t.f = 3)) G.l).length = infosN G := rfl;rw [hni] at HIN;have HCY : Hid ((6 < infosN G ∨ 5 < (lostX G.l).length) → cutH G = ⟨G.ss, G.ks, []⟩) := Hd (fun h => by unfold cutH; rw [if_pos ⟨hm, h⟩]);have HCN : Hid (¬ (6 < infosN G ∨ 5 < (lostX G.l).length) → cutH G = G) := Hd (fun h => by unfold cutH; rw [if_neg (fun e => h e.2)]);generalize infosN G = ni at *;generalize hnl : (lostX G.l).length = nl at *;unfold hval at HIN HLS;clear hm hni hnl;go_wp2_with fail
  refine (HMY.out).mono ?_;rintro e w5 ⟨rfl, O5⟩;clear lHB_ y0 y1 y2;have HO45 := Hd O5;have HO5 := Hd (HO4.out.trans O5);have HB5 := Hd (O5.blk HB4.out (by simp));have HR5 := Hd (O5.blk HR4.out (by simp));have HI5 := Hd (HI4.out.same O5);clear HO4 HB4 HR4 HI4;clear O5 HMY;have lHB_ := HB5.out.lt;have y0 := HB5.out.at_ 0;have y1 := HB5.out.at_ 1;have y2 := HB5.out.at_ 2;simp at y0 y1 y2;go_wp2_with fail
  refine (HIN.out _ HO45.out).mono ?_;rintro e w6 ⟨Ai, ci, ⟨rfl, -⟩, O6⟩;clear lHB_ y0 y1 y2;have HO46 := Hd (HO45.out.trans O6);have HO6 := Hd (HO5.out.trans O6);have HB6 := Hd (O6.blk HB5.out (by simp));have HR6 := Hd (O6.blk HR5.out (by simp));have HI6 := Hd (HI5.out.same O6);clear HO5 HB5 HR5 HI5;clear O6 HIN HO45;obtain ⟨bb, hbb⟩ : ∃ bb, bb = (decide (6 < ni) || decide (5 < nl)) := ⟨_, rfl⟩;have HBB := Hd hbb;clear hbb;have lHB_ := HB6.out.lt;have y0 := HB6.out.at_ 0;have y1 := HB6.out.at_ 1;have y2 := HB6.out.at_ 2;simp at y0 y1 y2
  by_cases h6 : 6 < ni
  ·have q1 : decide ((6 : Int) < (ni : Int)) = true := by simp; omega
   have q1' : decide ((ni : Int) > 6) = true := by simp; omega
   have q1'' : decide (6 < ni) = true := by simp; omega
   have HE := Hd (HCY.out (.inl h6));clear HLS HCY HCN HBB h6;have hf2 := HB6.out.free 2;have hI6 := HI6.out.noL;have hp := HB6.out.put 2 (.slice none 0 0);have OS : Only [g] w6 (w6.setCell ⟨g, 2, none⟩ (.slice none 0 0)) := (Only.refl [g] w6).put (p := ⟨g, 2, none⟩) (fun _ => by simp) (.slice none 0 0);have HB8 : Hid (Blk (w6.setCell ⟨g, 2, none⟩ (.slice none 0 0)) g 25 #[.slice B0 G.ss.length d0, .slice B1 G.ks.length d1, .slice none 0 0]) := Hd (by simpa using hp);have HR8 := Hd (OS.blk HR6.out (by simp; omega));have HO8 := Hd (HO6.out.step OS (fun i hi hl => by simp at hi; omega));have HI8 := Hd (hI6.past HB6.out OS (HT.out.only HO8.out));clear hI6 hp OS;go_upto_region 4 with (fail)
   clear hf2 lHB_ y0 y1 y2 HB6 HR6 HO6 HI6;generalize (w6.setCell ⟨g, 2, none⟩ (.slice none 0 0)) = w8 at *;have lHB_ := HB8.out.lt;have y0 := HB8.out.at_ 0;have y1 := HB8.out.at_ 1;have y2 := HB8.out.at_ 2;simp at y0 y1 y2;go_wp2_with (refine wpList_store_blk rfl 25 (.tmp 2) (.tmp 21) rfl gr 25 _ #[.slice B0 G.ss.length d0, .slice B1 G.ks.length d1, .slice none 0 0] rfl rfl HR8.out rfl (by kernel_rfl) (by kernel_rfl) ?_; intro w9 hb9 o9; have HR9 := Hd hb9; have HO9 := Hd (HO8.out.step o9 (fun i hi hl => by simp at hi; omega)); have HI9 := Hd (HI8.out.past HR8.out o9 (HT.out.only HO9.out)); clear hb9 o9)
   refine bodyPost_ret (results_row1 Tryz.results22 _ _ gr 25 #[.slice B0 G.ss.length d0, .slice B1 G.ks.length d1, .slice none 0 0] _ rfl HR9.out Tryz.underlying25 rfl (by kernel_rfl)) rfl ?_;rw [HE.out];refine ⟨B0, B1, none, d0, d1, 0, ⟨rfl, ?_⟩, HO9.out⟩;exact HI9.out
  ·have q1 : decide ((6 : Int) < (ni : Int)) = false := by simp; omega
   have q1' : decide ((ni : Int) > 6) = false := by simp; omega
   have q1'' : decide (6 < ni) = false := by simp; omega
   go_wp2_with fail
   refine (HLS.out _ HO46.out).mono ?_;rintro e w7 ⟨AL, cL, ⟨rfl, -⟩, O7⟩;clear lHB_ y0 y1 y2;have HO7 := Hd (HO6.out.trans O7);have HB7 := Hd (O7.blk HB6.out (by simp));have HR7 := Hd (O7.blk HR6.out (by simp));have HI7 := Hd (HI6.out.same O7);clear HO6 HB6 HR6 HI6;clear O7 HLS HO46;have lHB_ := HB7.out.lt;have y0 := HB7.out.at_ 0;have y1 := HB7.out.at_ 1;have y2 := HB7.out.at_ 2;simp at y0 y1 y2
   by_cases h5 : 5 < nl
   ·have q2 : decide ((5 : Int) < (nl : Int)) = true := by simp; omega
    have q2' : decide ((nl : Int) > 5) = true := by simp; omega
    have q2'' : decide (5 < nl) = true := by simp; omega
    have HE := Hd (HCY.out (.inr h5));clear HCY HCN HBB h6 h5;have hf2 := HB7.out.free 2;have hI7 := HI7.out.noL;have hp := HB7.out.put 2 (.slice none 0 0);have OS : Only [g] w7 (w7.setCell ⟨g, 2, none⟩ (.slice none 0 0)) := (Only.refl [g] w7).put (p := ⟨g, 2, none⟩) (fun _ => by simp) (.slice none 0 0);have HB8 : Hid (Blk (w7.setCell ⟨g, 2, none⟩ (.slice none 0 0)) g 25 #[.slice B0 G.ss.length d0, .slice B1 G.ks.length d1, .slice none 0 0]) := Hd (by simpa using hp);have HR8 := Hd (OS.blk HR7.out (by simp; omega));have HO8 := Hd (HO7.out.step OS (fun i hi hl => by simp at hi; omega));have HI8 := Hd (hI7.past HB7.out OS (HT.out.only HO8.out));clear hI7 hp OS;go_upto_region 4 with (fail)
    clear hf2 lHB_ y0 y1 y2 HB7 HR7 HO7 HI7;generalize (w7.setCell ⟨g, 2, none⟩ (.slice none 0 0)) = w8 at *;have lHB_ := HB8.out.lt;have y0 := HB8.out.at_ 0;have y1 := HB8.out.at_ 1;have y2 := HB8.out.at_ 2;simp at y0 y1 y2;go_wp2_with (refine wpList_store_blk rfl 25 (.tmp 2) (.tmp 21) rfl gr 25 _ #[.slice B0 G.ss.length d0, .slice B1 G.ks.length d1, .slice none 0 0] rfl rfl HR8.out rfl (by kernel_rfl) (by kernel_rfl) ?_; intro w9 hb9 o9; have HR9 := Hd hb9; have HO9 := Hd (HO8.out.step o9 (fun i hi hl => by simp at hi; omega)); have HI9 := Hd (HI8.out.past HR8.out o9 (HT.out.only HO9.out)); clear hb9 o9)
    refine bodyPost_ret (results_row1 Tryz.results22 _ _ gr 25 #[.slice B0 G.ss.length d0, .slice B1 G.ks.length d1, .slice none 0 0] _ rfl HR9.out Tryz.underlying25 rfl (by kernel_rfl)) rfl ?_;rw [HE.out];refine ⟨B0, B1, none, d0, d1, 0, ⟨rfl, ?_⟩, HO9.out⟩;exact HI9.out
   ·have q2 : decide ((5 : Int) < (nl : Int)) = false := by simp; omega
    have q2' : decide ((nl : Int) > 5) = false := by simp; omega
    have q2'' : decide (5 < nl) = false := by simp; omega
    have HE := Hd (HCN.out (by omega));clear HCY HCN HBB h6 h5;go_upto_region 4 with (fail)
    go_wp2_with (refine wpList_store_blk rfl 25 (.tmp 2) (.tmp 21) rfl gr 25 _ #[.slice B0 G.ss.length d0, .slice B1 G.ks.length d1, .slice B2 G.l.length d2] rfl rfl HR7.out rfl (by kernel_rfl) (by kernel_rfl) ?_; intro w9 hb9 o9; have HR9 := Hd hb9; have HO9 := Hd (HO7.out.step o9 (fun i hi hl => by simp at hi; omega)); have HI9 := Hd (HI7.out.past HR7.out o9 (HT.out.only HO9.out)); clear hb9 o9)
    refine bodyPost_ret (results_row1 Tryz.results22 _ _ gr 25 #[.slice B0 G.ss.length d0, .slice B1 G.ks.length d1, .slice B2 G.l.length d2] _ rfl HR9.out Tryz.underlying25 rfl (by kernel_rfl)) rfl ?_;rw [HE.out];refine ⟨B0, B1, B2, d0, d1, d2, ⟨rfl, ?_⟩, HO9.out⟩;exact HI9.out
theorem few16_first (A0 A1 A2 : Option Addr) (c0 c1 c2 : Nat) (h : Hst) (w : World) (hg : HAt w w.heap.size A0 A1 A2 h) (hm0 : h.ss.length ≤ maxLen) (hm1 : h.ks.length ≤ maxLen) (hm2 : h.l.length ≤ maxLen)
  (hz0 : ∀ z ∈ h.ss, z.size ≤ maxLen) (hz1 : ∀ z ∈ h.ks, z.size ≤ maxLen) (hT : UTabs w) :
  Calls Tryz.prog 22 #[.agg #[.slice A0 h.ss.length c0, .slice A1 h.ks.length c1, .slice A2 h.l.length c2]] w fun e w' => ∃ B0 B1 B2 d0 d1 d2, (e = .returned (.agg #[.slice B0 (few16 h).ss.length d0, .slice B1 (few16 h).ks.length d1, .slice B2 (few16 h).l.length d2]) ∧ HIn w' w'.heap.size B0 B1 B2 (few16 h).ss.length (few16 h).ks.length (few16 h).l.length (few16 h)) ∧ Only [] w w' :=
 few16_core A0 A1 A2 _ _ _ c0 c1 c2 (fewH h) w (fun w' O => few_first A0 A1 A2 c0 c1 c2 h w' (hg.only O (by simp)).up hm0 hm1 hm2 hz0 hz1 (hT.only O)) hT

end Go.Proofs.YtjfbeeogiejopaaGreatDoor
namespace Go.Proofs.YtjfbeeogiejopaaGreatDoor
def HAgg (w : World) (m0 m1 m2 : Nat) (G : Hst) (y : Value) : Prop := ∃ B D0 D1 D2 f0 f1 f2, y = .agg #[.slice D0 m0 f0, .slice D1 m1 f1, .slice D2 m2 f2] ∧ HIn w B D0 D1 D2 m0 m1 m2 G
theorem HAgg.same {w w' : World} {m0 m1 m2 : Nat} {G : Hst} {y : Value} (h : HAgg w m0 m1 m2 G y) (O : Only [] w w') : HAgg w' m0 m1 m2 G y := by
 obtain ⟨B, D0, D1, D2, f0, f1, f2, e, hI⟩ := h;exact ⟨B, D0, D1, D2, f0, f1, f2, e, hI.same O⟩
end Go.Proofs.YtjfbeeogiejopaaGreatDoor


set_option linter.unusedVariables false
set_option linter.unusedSimpArgs false
namespace Go.Proofs.YtjfbeeogiejopaaGreatDoor
open Go.RowKit
open Go.Lib hiding intOf
theorem info_wld : (Tryz.prog.info? 51).map (fun i => (i.zero, i.size, i.bytes)) = some (some (.agg #[.slice none 0 0, .slice none 0 0]), 2, 48) := by kernel_rfl
structure WldA where
 x : Wld
 A : Option Addr
 ca : Nat
 A' : Option Addr
 cb : Nat
def wldC (y : WldA) : List Value := [.slice y.A y.x.c.length y.ca, .slice y.A' y.x.l.length y.cb]
structure WAt (w : World) (B : Nat) (y : WldA) : Prop where
 c : w.ownsRow B 4 1 (.slice y.A y.x.c.length y.ca) y.x.c.length (y.x.c.map Value.bool)
 l : w.ownsRow B 38 2 (.slice y.A' y.x.l.length y.cb) y.x.l.length (edgeC y.x.l)
theorem WAt.same {w w' : World} {B : Nat} {y : WldA} (h : WAt w B y) (o : Only [] w w') : WAt w' B y := ⟨own_only h.c o (by simp), own_only h.l o (by simp)⟩
theorem WAt.blkS {w w' : World} {B g : Nat} {y : WldA} {cs : Array Value} (h : WAt w B y) (hb : Blk w g 51 cs) (o : Only [g] w w') : WAt w' B y :=
 ⟨owb h.c hb o, owb h.l hb o⟩
theorem WAt.own {w w' : World} {B B' n : Nat} {y : WldA} {v : Value} {xs : List Value} (h : WAt w B y) (hv : w.ownsRow B' 51 2 v n xs) (o : Only v.ownBlock.toList w w') : WAt w' B y :=
 ⟨own_only h.c o (own_two h.c hv (by decide)), own_only h.l o (own_two h.l hv (by decide))⟩
def wldsC (ys : List WldA) : List Value := ys.flatMap wldC
theorem wldsC_len (ys : List WldA) : (wldsC ys).length = ys.length * 2 := by
 induction ys with
 | nil => rfl
 | cons y ys ih => simp only [wldsC, List.flatMap_cons, List.length_append] at ih ⊢; rw [ih]; simp [wldC]; omega
theorem wldsC_get : ∀ {ys : List WldA} {i : Nat} {y : WldA}, ys[i]? = some y → (wldsC ys)[i * 2]? = some (.slice y.A y.x.c.length y.ca) ∧ (wldsC ys)[i * 2 + 1]? = some (.slice y.A' y.x.l.length y.cb)
 | [], i, y, h => by simp at h
 | z :: ys, 0, y, h => by
  simp at h;subst h;exact ⟨rfl, rfl⟩
 | z :: ys, i + 1, y, h => by
  have ih := wldsC_get (ys := ys) (i := i) (by simpa using h);have e : wldsC (z :: ys) = wldC z ++ wldsC ys := rfl;rw [e, List.getElem?_append_right (by simp [wldC]; omega), List.getElem?_append_right (by simp [wldC]; omega)];simp only [wldC, List.length_cons, List.length_nil];rw [show (i + 1) * 2 - (0 + 1 + 1) = i * 2 by omega, show (i + 1) * 2 + 1 - (0 + 1 + 1) = i * 2 + 1 by omega];exact ih
def slLen : Value → Nat
 | .slice _ n _ => n
 | _ => 0
def CurW (G : Hst) (w : World) (B gw k : Nat) : Prop := ∃ y : WldA, Blk w gw 51 (wldC y).toArray ∧ WAt w B y ∧ (k < (worldsL G).length → (worldsL G)[k]? = some y.x)
def WAgg (w : World) (B : Nat) (x : Wld) (y : Value) : Prop := ∃ A c A' c', y = .agg #[.slice A x.c.length c, .slice A' x.l.length c'] ∧ WAt w B ⟨x, A, c, A', c'⟩
theorem WAgg.same {w w' : World} {B : Nat} {x : Wld} {y : Value} (h : WAgg w B x y) (o : Only [] w w') : WAgg w' B x y := by
 obtain ⟨A, c, A', c', e, hw⟩ := h;exact ⟨A, c, A', c', e, hw.same o⟩
theorem WAt.low {w : World} {B B' : Nat} {y : WldA} (h : WAt w B y) (hb : B' ≤ B) : WAt w B' y := ⟨own_low h.c hb, own_low h.l hb⟩
section
variable {m0 m1 m2 : Nat} {G : Hst} {w : World} {y z : Value} {X : Wld} {Bz : Nat}
end
end Go.Proofs.YtjfbeeogiejopaaGreatDoor
namespace Go.Proofs.YtjfbeeogiejopaaGreatDoor
theorem few_int {h : Hst} (hI : HInt h) : HInt (fewH h) := fun t ht x hx => by
 obtain ⟨u, hu, rfl⟩ := List.mem_map.1 ht;exact hI u (List.mem_of_mem_take hu) x (List.mem_of_mem_take hx)
end Go.Proofs.YtjfbeeogiejopaaGreatDoor
