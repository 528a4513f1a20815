/- Parts. -/
import Derived.Test.YtghimogdeijgdaaGreatDoorLaw17AllK40
import Derived.Test.YtghimogdeijgdaaGreatDoorLaw17AllK36
set_option maxRecDepth 10000
set_option maxHeartbeats 16000000
set_option linter.unusedVariables false
set_option linter.unusedSimpArgs false
namespace Go.Proofs.YtghimogdeijgdaaGreatDoor
open Go.RowKit
open Go.Lib hiding intOf
attribute [local go_sem ↓] Go.wp_at_zero Go.wp_at_succ
theorem row_none {w : World} {B : Nat} {xs : List Value} (h : Row w B none xs) : xs = [] := by
 rcases h with h | ⟨b, off, e, -⟩
 ·exact h
 ·cases e
theorem oclone_any (A : Option Addr) (m c B : Nat) (xs : List Op4) (w : World) (hg : Row w B A (opC xs)) (hm : xs.length = m) (hM : m ≤ 100000) :
  Calls Tryz.prog 26 #[.slice A m c] w fun e w' => ∃ V, (e = .returned V ∧ w'.ownsRow w.heap.size 55 4 V m (opC xs)) ∧ Only [] w w' := by
 obtain ⟨i0, hi, hz0, hz1, hz2⟩ := info_parts info_op;have hnil := fun (w : World) (a : Option Addr) (n c : Nat) => Go.Lib.run_eql_slice_nil (P := Tryz.prog) w _ _ a n c 0 0 Tryz.underlying46;have HG := Hd hg;have HM := Hd hm;have hx0 : A = none → xs = [] := fun e => by
  subst e;have h1 := row_none hg;have h2 := opC_len xs;rw [h1] at h2;exact List.eq_nil_of_length_eq_zero (by simp at h2; omega)
 clear hg hm
 cases A with
 | none =>
  have hx := hx0 rfl;subst hx;obtain rfl : m = 0 := HM.out.symm;clear hx0;go_enter Tryz.func26, Tryz.ntmps26;go_wp2
  go_ret
  first | exact ⟨⟨_, rfl, World.ownsRow_nil _ _ _ _⟩, Only.refl [] w⟩ | exact ⟨_, ⟨rfl, World.ownsRow_nil _ _ _ _⟩, Only.refl [] w⟩
 | some a =>
  clear hx0;have hl4 : (opC xs).length = m * 4 := by rw [opC_len, HM.out]
  go_enter Tryz.func26, Tryz.ntmps26;go_wp2_with (at_builtin; refine wpList_append_row _ rfl (.tmp 5) (.tmp 6) 46 rfl w.heap.size 55 i0 _ 4 32 Tryz.underlying46 hi hz0 hz1 hz2 rfl (by omega) (.slice (some ⟨w.heap.size, 0, none⟩) 0 0) 0 [] rfl (World.ownsRow_lit w (e := 55) (size := 4) #[] 0 (Nat.le_refl _) (by unfold maxLen; omega) rfl) _ (some a) m c (opC xs) rfl hl4 (HG.out.only ((Only.refl [] w).alloc (.cells #[] 55)) (by simp)) (one_opC xs) (by unfold maxLen; omega) (by omega) (by simp) ?_; intro V9 w9 hown hgrow hat)
  have HV := Hd hown;have HO := Hd (((Only.refl [] w).alloc (.cells #[] 55)).step (only_grown hgrow) (fun i hi hl => by have h2 : i = w.heap.size := (by simp [Value.ownBlock] at hi; exact hi); omega));rw [Nat.zero_add, List.nil_append] at HV;clear hown hgrow hat;go_wp2
  go_ret
  exact ⟨_, ⟨rfl, HV.out⟩, HO.out⟩
theorem vslice_tail (b off t c : Nat) (h : 1 ≤ t) (hc : t ≤ c) (W : World) : (Instr.slice 27 (.slice (some ⟨b, off, none⟩) t c) (some (.int .i64 1)) none none).run Tryz.prog W = .ok (.slice (some ⟨b, if c = 1 then off else off + 2, none⟩) (t - 1) (c - 1)) W := by
 rw [run_slice_l (P := Tryz.prog) W 27 (some ⟨b, off, none⟩) t c (by kernel_rfl) .i64 (1 : Int) (by omega) (by omega)];have hs : (sizeOf (Tryz.prog.elem 27)).run Tryz.prog W = .ok 2 W := by kernel_rfl
 rw [hs]
 by_cases hc1 : c = 1 <;> simp [Result.andThen, sliced, hc1, Addr.add]
theorem vals_tail {w : World} {B b off cq : Nat} {v : V2} {vs : List V2} (h : Row w B (some ⟨b, off, none⟩) (edgeC (v :: vs))) (hc : vs.length + 1 ≤ cq) : Row w B (some ⟨b, if cq = 1 then off else off + 2, none⟩) (edgeC vs) := by
 by_cases e : cq = 1
 ·have : vs = [] := List.eq_nil_of_length_eq_zero (by omega);subst this;exact .inl rfl
 ·rw [if_neg e];exact h.drop 2
def makeR (h : Hst) (x : Wld) : Hst × Int := if mayH h = true then (if mayW h x = true then (makeH h x, 0) else (⟨[], [], []⟩, 2)) else (⟨[], [], []⟩, 4)
theorem rmake17_any (A0 A1 A2 Ac Al : Option Addr) (n0 n1 n2 nc nl c0 c1 c2 cc cl B Bl : Nat) (h : Hst) (x : Wld) (w : World) (hg : HIn w B A0 A1 A2 n0 n1 n2 h) (hl : Row w Bl Al (edgeC x.l)) (hcl : x.c.length = nc) (hll : x.l.length = nl) (hM : nl ≤ 100000)
  (hraw : mayW h x = true → ∀ w', Only [] w w' → Calls Tryz.prog 27 #[hval A0 A1 A2 n0 n1 n2 c0 c1 c2, .agg #[.slice Ac nc cc, .slice Al nl cl]] w' fun e w'' => ∃ B0 B1 B2 d0 d1 d2, (e = .returned (.agg #[.slice B0 (makeH h x).ss.length d0, .slice B1 (makeH h x).ks.length d1, .slice B2 (makeH h x).l.length d2]) ∧ HNew w'.heap.size w'' B0 B1 B2 (makeH h x)) ∧ Only [] w' w'') :
  Calls Tryz.prog 9 #[hval A0 A1 A2 n0 n1 n2 c0 c1 c2, .agg #[.slice Ac nc cc, .slice Al nl cl]] w fun e w' => ∃ B0 B1 B2 d0 d1 d2, (e = .returned (.tuple #[.agg #[.slice B0 (makeR h x).1.ss.length d0, .slice B1 (makeR h x).1.ks.length d1, .slice B2 (makeR h x).1.l.length d2], .int .i64 (makeR h x).2]) ∧ HAt w' w'.heap.size B0 B1 B2 (makeR h x).1) ∧ Only [] w w' := by
 have O1 : Only [] w (((w.alloc (.cells #[.slice A0 n0 c0, .slice A1 n1 c1, .slice A2 n2 c2] 25)).alloc (.cells #[.slice Ac nc cc, .slice Al nl cl] 29)).alloc (.cells zeroH 25)) := (((Only.refl [] w).alloc _).alloc _).alloc _;have HMY := Hd (fun w' (O : Only [] w w') => refmay_any A0 A1 A2 n0 n1 n2 c0 c1 c2 B h w' (hg.same O));have HMW := Hd (fun w' (O : Only [] w w') => rmay16_any A0 A1 A2 Ac Al n0 n1 n2 nc nl c0 c1 c2 cc cl B Bl h x w' (hg.same O) (hl.only O (by simp)) hcl hll hM);have HO1 := Hd O1;have HB1 := Hd (((Blk.made w 25 #[.slice A0 n0 c0, .slice A1 n1 c1, .slice A2 n2 c2]).alloc (.cells #[.slice Ac nc cc, .slice Al nl cl] 29)).alloc (.cells zeroH 25));have HW1 := Hd ((Blk.made (w.alloc (.cells #[.slice A0 n0 c0, .slice A1 n1 c1, .slice A2 n2 c2] 25)) 29 #[.slice Ac nc cc, .slice Al nl cl]).alloc (.cells zeroH 25));have HR1 := Hd (Blk.made ((w.alloc (.cells #[.slice A0 n0 c0, .slice A1 n1 c1, .slice A2 n2 c2] 25)).alloc (.cells #[.slice Ac nc cc, .slice Al nl cl] 29)) 25 zeroH);have HRW := Hd hraw;unfold hval at HMY HMW HRW ⊢;unfold zeroH at HO1 HR1 HB1 HW1;simp only [World.size_alloc] at HR1 HW1;unfold makeR;clear O1 hraw hg hl hcl hll
 cases hm : mayH h with
 | false =>
  rw [errH_not hm] at HMY;rw [if_neg (by decide)];clear hm HMW HRW;go_enter Tryz.func9, Tryz.ntmps9;go_wp2_with fail
  generalize hgr : w.heap.size + 1 + 1 = gr at *;refine (HMY.out _ HO1.out).mono ?_;rintro e w2 ⟨rfl, O2⟩;have HO2 := Hd (HO1.out.trans O2);have HR2 := Hd (O2.blk HR1.out (by simp));clear O2 HMY;go_wp2_with (refine wpList_store_blk rfl 25 (.tmp 4) (.tmp 11) rfl gr 25 _ #[.slice none 0 0, .slice none 0 0, .slice none 0 0] rfl rfl HR2.out rfl (by kernel_rfl) (by kernel_rfl) ?_; intro w9 b9 o9; have HB9 := Hd b9; have HN9 := Hd o9; clear b9 o9)
  refine bodyPost_ret (results_row2 Tryz.results9 _ _ gr 25 #[.slice none 0 0, .slice none 0 0, .slice none 0 0] _ rfl HB9.out Tryz.underlying25 rfl (by kernel_rfl)) rfl ?_;exact ⟨none, none, none, 0, 0, 0, ⟨rfl, ⟨.inl rfl, .inl rfl, LRow.nil⟩⟩, HO2.out.step HN9.out (fun i hi hl => by simp at hi; omega)⟩
 | true =>
  rw [errH_yes hm] at HMY;rw [if_pos rfl];clear hm
  cases hw : mayW h x with
  | false =>
   rw [hw] at HMW;rw [if_neg (by decide)];clear hw HRW;go_enter Tryz.func9, Tryz.ntmps9;go_wp2_with fail
   generalize hgr : w.heap.size + 1 + 1 = gr at *;generalize hgw : w.heap.size + 1 = gw at *;refine (HMY.out _ HO1.out).mono ?_;rintro e w2 ⟨rfl, O2⟩;have HO2 := Hd (HO1.out.trans O2);have HR2 := Hd (O2.blk HR1.out (by simp));have hB2 := O2.blk HB1.out (by simp);have hW2 := O2.blk HW1.out (by simp);clear O2 HMY HR1 HB1 HW1;have lB := hB2.lt;have y0 := hB2.at_ 0;have y1 := hB2.at_ 1;have y2 := hB2.at_ 2;have lW := hW2.lt;have x0 := hW2.at_ 0;have x1 := hW2.at_ 1;simp at y0 y1 y2 x0 x1;clear hB2 hW2;go_wp2_with fail
   refine (HMW.out _ HO2.out).mono ?_;rintro e w3 ⟨rfl, O3⟩;have HO3 := Hd (HO2.out.trans O3);have HR3 := Hd (O3.blk HR2.out (by simp));clear O3 HMW HR2;go_wp2_with (refine wpList_store_blk rfl 25 (.tmp 4) (.tmp 17) rfl gr 25 _ #[.slice none 0 0, .slice none 0 0, .slice none 0 0] rfl rfl HR3.out rfl (by kernel_rfl) (by kernel_rfl) ?_; intro w9 b9 o9; have HB9 := Hd b9; have HN9 := Hd o9; clear b9 o9)
   refine bodyPost_ret (results_row2 Tryz.results9 _ _ gr 25 #[.slice none 0 0, .slice none 0 0, .slice none 0 0] _ rfl HB9.out Tryz.underlying25 rfl (by kernel_rfl)) rfl ?_;exact ⟨none, none, none, 0, 0, 0, ⟨rfl, ⟨.inl rfl, .inl rfl, LRow.nil⟩⟩, HO3.out.step HN9.out (fun i hi hl => by simp at hi; omega)⟩
  | true =>
   rw [hw] at HMW;rw [if_pos rfl];have HRX := Hd (HRW.out hw);clear hw HRW;generalize makeH h x = G at *;go_enter Tryz.func9, Tryz.ntmps9;go_wp2_with fail
   generalize hgr : w.heap.size + 1 + 1 = gr at *;generalize hgw : w.heap.size + 1 = gw at *;refine (HMY.out _ HO1.out).mono ?_;rintro e w2 ⟨rfl, O2⟩;have HO2 := Hd (HO1.out.trans O2);have HR2 := Hd (O2.blk HR1.out (by simp));have HB2 := Hd (O2.blk HB1.out (by simp));have HW2 := Hd (O2.blk HW1.out (by simp));clear O2 HMY HR1 HB1 HW1;have lB := HB2.out.lt;have y0 := HB2.out.at_ 0;have y1 := HB2.out.at_ 1;have y2 := HB2.out.at_ 2;have lW := HW2.out.lt;have x0 := HW2.out.at_ 0;have x1 := HW2.out.at_ 1;simp at y0 y1 y2 x0 x1;go_wp2_with fail
   refine (HMW.out _ HO2.out).mono ?_;rintro e w3 ⟨rfl, O3⟩;have HO3 := Hd (HO2.out.trans O3);have HR3 := Hd (O3.blk HR2.out (by simp));have hB3 := O3.blk HB2.out (by simp);have hW3 := O3.blk HW2.out (by simp);clear O3 HMW HR2 HB2 HW2 lB lW y0 y1 y2 x0 x1;have lB := hB3.lt;have y0 := hB3.at_ 0;have y1 := hB3.at_ 1;have y2 := hB3.at_ 2;have lW := hW3.lt;have x0 := hW3.at_ 0;have x1 := hW3.at_ 1;simp at y0 y1 y2 x0 x1;clear hB3 hW3;go_wp2_with fail
   refine (HRX.out w3 HO3.out).mono ?_;rintro e w4 ⟨B0, B1, B2, d0, d1, d2, ⟨rfl, HA⟩, O4⟩;have HO4 := Hd (HO3.out.trans O4);have HR4 := Hd (O4.blk HR3.out (by simp));have HAA := Hd HA;clear O4 HA;go_wp2_with (refine wpList_store_blk rfl 25 (.tmp 4) (.tmp 20) rfl gr 25 _ #[.slice B0 G.ss.length d0, .slice B1 G.ks.length d1, .slice B2 G.l.length d2] rfl rfl HR4.out rfl (by kernel_rfl) (by kernel_rfl) ?_; intro w9 b9 o9; have HB9 := Hd b9; have HN9 := Hd o9; clear b9 o9)
   refine bodyPost_ret (results_row2 Tryz.results9 _ _ gr 25 #[.slice B0 G.ss.length d0, .slice B1 G.ks.length d1, .slice B2 G.l.length d2] _ rfl HB9.out Tryz.underlying25 rfl (by kernel_rfl)) rfl ?_;exact ⟨B0, B1, B2, d0, d1, d2, ⟨rfl, (HAA.out.step HN9.out (fun i hi => by simp at hi; have h9 := HR3.out.lt; omega) (Nat.le_refl _) : HNew w3.heap.size w9 B0 B1 B2 G).at_⟩, HO4.out.step HN9.out (fun i hi hl => by simp at hi; omega)⟩
end Go.Proofs.YtghimogdeijgdaaGreatDoor
