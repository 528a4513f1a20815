/- Parts. -/
import Derived.Test.YtbiclliooidkjaaGreatDoorLaw41AllK26
import Derived.Test.YtbiclliooidkjaaGreatDoorLaw41AllK31
set_option maxRecDepth 10000
set_option maxHeartbeats 16000000
set_option linter.unusedVariables false
set_option linter.unusedSimpArgs false
namespace Go.Proofs.YtbiclliooidkjaaGreatDoor
open Go.RowKit
open Go.Lib hiding intOf
attribute [local go_sem ↓] Go.wp_at_zero Go.wp_at_succ
theorem by_small {h : Hst} (hs : HSmall h) (y : Int) : HSmall (byR h y).1 := by
 unfold byR
 split
 ·split
  ·exact kept_small hs
  ·split
   ·exact kept_small hs
   ·exact empty_small
 ·exact empty_small
theorem rby_any (A0 A1 A2 : Option Addr) (n0 n1 n2 c0 c1 c2 B : Nat) (h : Hst) (y : Int) (w : World) (hg : HIn w B A0 A1 A2 n0 n1 n2 h) :
  Calls Tryz.prog 18 #[hval A0 A1 A2 n0 n1 n2 c0 c1 c2, .int .i64 y] w fun e w' => ∃ B0 B1 B2 d0 d1 d2, (e = .returned (.tuple #[.agg #[.slice B0 (byR h y).1.ss.length d0, .slice B1 (byR h y).1.ks.length d1, .slice B2 (byR h y).1.l.length d2], .int .i64 (byR h y).2]) ∧ HAt w' w'.heap.size B0 B1 B2 (byR h y).1) ∧ Only [] w w' := by
 have O1 : Only [] w ((w.alloc (.cells #[.slice A0 n0 c0, .slice A1 n1 c1, .slice A2 n2 c2] 25)).alloc (.cells zeroH 25)) := ((Only.refl [] w).alloc _).alloc _;have HF := Hd (refmay_any A0 A1 A2 n0 n1 n2 c0 c1 c2 B h _ (hg.same O1));have HO1 := Hd O1;have HB1 := Hd ((Blk.made w 25 #[.slice A0 n0 c0, .slice A1 n1 c1, .slice A2 n2 c2]).alloc (.cells zeroH 25));have HR1 := Hd (Blk.made (w.alloc (.cells #[.slice A0 n0 c0, .slice A1 n1 c1, .slice A2 n2 c2] 25)) 25 zeroH);have HI := Hd hg;unfold hval at HF ⊢;unfold zeroH at HF HO1 HR1 HB1;simp only [World.size_alloc] at HF HR1;unfold byR;clear O1
 cases hm : mayH h with
 | false =>
  rw [mayH_errn2 hm] at HF;rw [if_neg (by decide)];clear hm hg;go_enter Tryz.func18, Tryz.ntmps18;go_wp2_with fail
  generalize hgr : w.heap.size + 1 = gr at *;refine (HF.out).mono ?_;rintro e w2 ⟨rfl, O2⟩;have HO2 := Hd (HO1.out.trans O2);have HR2 := Hd (O2.blk HR1.out (by simp));clear O2 HF;go_wp2_with (refine wpList_store_blk rfl 25 (.tmp 4) (.tmp 11) rfl gr 25 _ #[.slice none 0 0, .slice none 0 0, .slice none 0 0] rfl rfl HR2.out rfl (by kernel_rfl) (by kernel_rfl) ?_; intro w9 b9 o9; have HB9 := Hd b9; have HN9 := Hd o9; clear b9 o9)
  refine bodyPost_ret (results_row2 Tryz.results18 _ _ gr 25 #[.slice none 0 0, .slice none 0 0, .slice none 0 0] _ rfl HB9.out Tryz.underlying25 rfl (by kernel_rfl)) rfl ?_;exact ⟨none, none, none, 0, 0, 0, ⟨rfl, ⟨.inl rfl, .inl rfl, LRow.nil⟩⟩, HO2.out.step HN9.out (fun i hi hl => by simp at hi; omega)⟩
 | true =>
  have HRW := Hd (fun w' (O : Only [] w w') => rraw14_any A0 A1 A2 n0 n1 n2 c0 c1 c2 B h w' (hg.same O) hm);have HKA := Hd (keptH_anyOp hm);rw [mayH_err2 hm] at HF;rw [if_pos rfl];unfold hval at HRW;clear hg hm
  by_cases h1 : y = 1
  ·subst h1;rw [if_pos rfl];clear HRW;dsimp only;rw [HKA.out, HI.out.n0, HI.out.n1, HI.out.n2];go_enter Tryz.func18, Tryz.ntmps18;go_wp2_with fail
   generalize hgr : w.heap.size + 1 = gr at *;refine (HF.out).mono ?_;rintro e w2 ⟨rfl, O2⟩;have HO2 := Hd (HO1.out.trans O2);have HR2 := Hd (O2.blk HR1.out (by simp));have HB2 := Hd (O2.blk HB1.out (by simp));clear O2 HF HB1 HR1;have lB := HB2.out.lt;have x0 := HB2.out.at_ 0;have x1 := HB2.out.at_ 1;have x2 := HB2.out.at_ 2;simp at x0 x1 x2;go_wp2_with (refine wpList_store_blk rfl 25 (.tmp 4) (.tmp 15) rfl gr 25 _ #[.slice A0 n0 c0, .slice A1 n1 c1, .slice A2 n2 c2] rfl rfl HR2.out rfl (by kernel_rfl) (by kernel_rfl) ?_; intro w9 b9 o9; have HB9 := Hd b9; have HN9 := Hd o9; clear b9 o9)
   refine bodyPost_ret (results_row2 Tryz.results18 _ _ gr 25 #[.slice A0 n0 c0, .slice A1 n1 c1, .slice A2 n2 c2] _ rfl HB9.out Tryz.underlying25 rfl (by kernel_rfl)) rfl ?_;have O9 : Only [] w w9 := HO2.out.step HN9.out (fun i hi hl => by simp at hi; omega);exact ⟨A0, A1, A2, c0, c1, c2, ⟨rfl, (HI.out.same O9).at_.up⟩, O9⟩
  ·rw [if_neg h1];have h1' : (y == 1) = false := by simpa using h1
   by_cases h2 : y = 2
   ·subst h2;rw [if_pos rfl];generalize keptH notLost h = G at *;go_enter Tryz.func18, Tryz.ntmps18;go_wp2_with fail
    generalize hgr : w.heap.size + 1 = gr at *;refine (HF.out).mono ?_;rintro e w2 ⟨rfl, O2⟩;have HO2 := Hd (HO1.out.trans O2);have HR2 := Hd (O2.blk HR1.out (by simp));have HB2 := Hd (O2.blk HB1.out (by simp));have hsz2 := HO2.out.size;clear O2 HF HB1 HR1;have lB := HB2.out.lt;have x0 := HB2.out.at_ 0;have x1 := HB2.out.at_ 1;have x2 := HB2.out.at_ 2;simp at x0 x1 x2;go_wp2_with fail
    refine (HRW.out w2 HO2.out).mono ?_;rintro e w3 ⟨B0, B1, B2, d0, d1, d2, ⟨rfl, HA⟩, O3⟩;have HO3 := Hd (HO2.out.trans O3);have HR3 := Hd (O3.blk HR2.out (by simp));clear O3;go_wp2_with (refine wpList_store_blk rfl 25 (.tmp 4) (.tmp 19) rfl gr 25 _ #[.slice B0 G.ss.length d0, .slice B1 G.ks.length d1, .slice B2 G.l.length d2] rfl rfl HR3.out rfl (by kernel_rfl) (by kernel_rfl) ?_; intro w9 b9 o9; have HB9 := Hd b9; have HN9 := Hd o9; clear b9 o9)
    refine bodyPost_ret (results_row2 Tryz.results18 _ _ gr 25 #[.slice B0 G.ss.length d0, .slice B1 G.ks.length d1, .slice B2 G.l.length d2] _ rfl HB9.out Tryz.underlying25 rfl (by kernel_rfl)) rfl ?_;exact ⟨B0, B1, B2, d0, d1, d2, ⟨rfl, (HA.step HN9.out (fun i hi => by simp at hi; have h9 := HR2.out.lt; omega) (Nat.le_refl _) : HNew w2.heap.size w9 B0 B1 B2 G).at_⟩, HO3.out.step HN9.out (fun i hi hl => by simp at hi; omega)⟩
   ·rw [if_neg h2];have h2' : (y == 2) = false := by simpa using h2
    clear HRW;go_enter Tryz.func18, Tryz.ntmps18;go_wp2_with fail
    generalize hgr : w.heap.size + 1 = gr at *;refine (HF.out).mono ?_;rintro e w2 ⟨rfl, O2⟩;have HO2 := Hd (HO1.out.trans O2);have HR2 := Hd (O2.blk HR1.out (by simp));have HB2 := Hd (O2.blk HB1.out (by simp));clear O2 HF HB1 HR1;have lB := HB2.out.lt;have x0 := HB2.out.at_ 0;have x1 := HB2.out.at_ 1;have x2 := HB2.out.at_ 2;simp at x0 x1 x2;go_wp2_with (refine wpList_store_blk rfl 25 (.tmp 4) (.tmp 20) rfl gr 25 _ #[.slice none 0 0, .slice none 0 0, .slice none 0 0] rfl rfl HR2.out rfl (by kernel_rfl) (by kernel_rfl) ?_; intro w9 b9 o9; have HB9 := Hd b9; have HN9 := Hd o9; clear b9 o9)
    refine bodyPost_ret (results_row2 Tryz.results18 _ _ gr 25 #[.slice none 0 0, .slice none 0 0, .slice none 0 0] _ rfl HB9.out Tryz.underlying25 rfl (by kernel_rfl)) rfl ?_;exact ⟨none, none, none, 0, 0, 0, ⟨rfl, ⟨.inl rfl, .inl rfl, LRow.nil⟩⟩, HO2.out.step HN9.out (fun i hi hl => by simp at hi; omega)⟩
theorem infL_le {g : Hst} (h : HSmall g) : (infL g).length ≤ 1000 := by
 unfold infL
 split
 ·have := which_le (fun t : Tx => decide (t.f = 3)) g.l;have := h.nl;omega
 ·simp
theorem losL_le {g : Hst} (h : HSmall g) : (losL g).length ≤ 1000000 := by
 unfold losL
 split
 ·have h1 := plsL_len g.l (fun t ht => h.no t ht);have h2 := lostP_le (plsL g.l);have h3 := h.nl;omega
 ·simp
theorem mostH_le {g : Hst} (h : HSmall g) : mostH g ≤ 1000 := by
 unfold mostH
 split
 ·have h1 := mostN_le g.l g.ks.length;have h3 := h.nl;omega
 ·omega
theorem reads_le {g : Hst} (h : HSmall g) : readsN g.l ≤ 1000000 := by
 have h1 := readsN_le g.l h.no;have h3 := h.nl;omega
theorem ints_rep (k : Nat) (x : Int) : List.replicate k (Value.int .i64 x) = (List.replicate k x).map (Value.int .i64) := by simp
theorem upL_mem {n : Nat} {x : Int} (h : x ∈ upL n) : x ≤ n := by
 unfold upL at h;obtain ⟨i, hi, rfl⟩ := List.mem_map.1 h;have := List.mem_range.1 hi;omega
theorem ints_one {l : List Int} : ∀ u ∈ l.map (Value.int .i64), u.oneCell' = true := fun u hu => by
 obtain ⟨x, -, rfl⟩ := List.mem_map.1 hu
 rfl
set_option maxRecDepth 100000 in
theorem bof_any (A0 A1 A2 : Option Addr) (n0 n1 n2 c0 c1 c2 B : Nat) (h : Hst) (y : Int) (w : World) (hg : HIn w B A0 A1 A2 n0 n1 n2 h) :
  Calls Tryz.prog 6 #[hval A0 A1 A2 n0 n1 n2 c0 c1 c2, .int .i64 y] w fun e w' => e = .returned (.tuple #[.int .i64 (bndR h y).1, .int .i64 (bndR h y).2]) ∧ Only [] w w' := by
 obtain ⟨i0, hi, hz0, hz1, hz2⟩ := info_parts info_int;have O1 := (Only.refl [] w).alloc (.cells #[.slice A0 n0 c0, .slice A1 n1 c1, .slice A2 n2 c2] 25);have HBY := Hd (eby_any A0 A1 A2 n0 n1 n2 c0 c1 c2 B h y _ (hg.same O1));have HSM := Hd (by_small hg.sm y);have HU := Hd hg.u;have HO1 := Hd O1;have HB1 := Hd (Blk.made w 25 #[.slice A0 n0 c0, .slice A1 n1 c1, .slice A2 n2 c2]);unfold hval at HBY ⊢;unfold bndR;generalize hby : byR h y = R at *;obtain ⟨G, ye⟩ := R;dsimp only at HBY HSM ⊢;have HRP := Hd (fun (x : Int) A c B k w' hg hk => repeat_any x A c B k w' hg hk);have HL1 := Hd (infL_le HSM.out);have HL2 := Hd (losL_le HSM.out);have HL3 := Hd (reads_le HSM.out);have HL4 := Hd (mostH_le HSM.out);have hm2 : G.l.length ≤ 1000 := HSM.out.nl;obtain ⟨⟨ra, rb⟩, hr⟩ : ∃ r, (if ye ≠ 0 then ((0 : Int), ye) else prodR (bndL G)) = r := ⟨_, rfl⟩;rw [hr];have HR := Hd hr;dsimp only;clear O1 hg hby hr;go_enter Tryz.func6, Tryz.ntmps6;go_upto_region 1 with (fail)
 generalize (w.alloc (.cells #[.slice A0 n0 c0, .slice A1 n1 c1, .slice A2 n2 c2] 25)) = w1 at *;generalize w.heap.size = g1 at *;have lB := HB1.out.lt;have y0 := HB1.out.at_ 0;have y1 := HB1.out.at_ 1;have y2 := HB1.out.at_ 2;simp at y0 y1 y2;go_wp2_with fail
 refine (HBY.out).mono ?_;rintro e w2 ⟨B0, B1, B2, d0, d1, d2, ⟨rfl, hN⟩, O2⟩;have HO2 := Hd (HO1.out.trans O2);have HN := Hd hN.at_;clear O2 hN HBY HO1 HB1 lB y0 y1 y2
 by_cases hye : ye = 0
 ·subst hye;have HR2 : Hid (prodR (bndL G) = (ra, rb)) := Hd (by have := HR.out; rwa [if_neg (by decide)] at this);clear HR;go_upto_region 2 with (fail)
  have OX := (Only.refl [] w2).alloc (.cells #[.slice B0 G.ss.length d0, .slice B1 G.ks.length d1, .slice B2 G.l.length d2] 25);have HB3 := Hd (Blk.made w2 25 #[.slice B0 G.ss.length d0, .slice B1 G.ks.length d1, .slice B2 G.l.length d2]);have HO3 := Hd (HO2.out.trans OX);have HI3 : Hid (HIn (w2.alloc (.cells #[.slice B0 G.ss.length d0, .slice B1 G.ks.length d1, .slice B2 G.l.length d2] 25)) w2.heap.size B0 B1 B2 G.ss.length G.ks.length G.l.length G) := Hd ⟨HN.out.only OX (by simp), rfl, rfl, rfl, HSM.out, HU.out.only HO3.out⟩;clear OX HO2 HN;generalize (w2.alloc (.cells #[.slice B0 G.ss.length d0, .slice B1 G.ks.length d1, .slice B2 G.l.length d2] 25)) = w3 at *;generalize hgx : w2.heap.size = gx at *;have HMO := Hd (fun w' (O : Only [] w3 w') => wmost_any B0 B1 B2 G.ss.length G.ks.length G.l.length d0 d1 d2 _ G w' (HI3.out.same O));have HIF := Hd (fun w' (O : Only [] w3 w') => hinfos_any B0 B1 B2 G.ss.length G.ks.length G.l.length d0 d1 d2 _ G w' (HI3.out.same O));have HLS := Hd (fun w' (O : Only [] w3 w') => hlost_any B0 B1 B2 G.ss.length G.ks.length G.l.length d0 d1 d2 _ G w' (HI3.out.same O));have HRD := Hd (fun w' (O : Only [] w3 w') => breads_any B0 B1 B2 G.ss.length G.ks.length G.l.length d0 d1 d2 _ G w' (HI3.out.same O));unfold hval at HMO HIF HLS HRD;have HBL : Hid (bndL G = List.replicate (infL G).length 2 ++ List.replicate (losL G).length ((mostH G : Int) + 2) ++ List.replicate (readsN G.l) ((mostH G : Int) + 1) ++ upL (G.l.length + 1) ++ [(G.l.length : Int) + 1]) := Hd rfl;generalize hbl : bndL G = L at *;generalize G.ss.length = m0 at *;generalize G.ks.length = m1 at *;generalize G.l.length = m2 at *;generalize mostH G = M at *;generalize readsN G.l = p3 at *;have hM := HL4.out;have hp3 := HL3.out;clear hbl HI3 HSM hgx HL3 HL4;have hwM2 : IntKind.i64.wrap ((M : Int) + 2) = (M : Int) + 2 := IntWalk.i64_in _ (by omega);have hwM1 : IntKind.i64.wrap ((M : Int) + 1) = (M : Int) + 1 := IntWalk.i64_in _ (by omega);have hwm2 : IntKind.i64.wrap ((m2 : Int) + 1) = (m2 : Int) + 1 := IntWalk.i64_in _ (by omega);go_wp2_with fail
  have RD0 := Hd fun wq (hSw : Only [] w3 wq) => aI ((hSw.blk HB3.out (by simp)).lt) (aI ((hSw.blk HB3.out (by simp)).at_ 0) (aI ((hSw.blk HB3.out (by simp)).at_ 1) ((hSw.blk HB3.out (by simp)).at_ 2)));refine rg1 [] [] w3 ?_;have OW : Only [] w3 w3.drew := (Only.refl [] w3).drew;generalize w3.drew = wz at *;refine tQ 0 (h := trq 1 0 RD0 (h := tQ 2 (h := trq 3 0 RD0 (h := ?_))));refine tst (i := 4) fun K hK => ?_;go_simp;refine (HMO.out wz OW).mono ?_;rintro e w5 ⟨rfl, O5⟩;have OW5 := OW.trans O5;refine kOut hK (OW5) (h := ?_);clear hK K;refine tQ 5 (h := tQ 6 (h := ?_));refine tdn ?_;have HW5 := Hd OW5;have HB5 := Hd (OW5.blk HB3.out (by simp));clear OW O5 OW5 HMO HB3;go_upto_region 5 with (fail)
  have HB6 := Hd (HB5.out.alloc (.cells #[.int .i64 2] 3));have HW6 := Hd (HW5.out.alloc (.cells #[.int .i64 2] 3));have HR6 := Hd (row_up (row_lit w5 3 #[.int .i64 2]));have lB := HB6.out.lt;have y0 := HB6.out.at_ 0;have y1 := HB6.out.at_ 1;have y2 := HB6.out.at_ 2;simp at y0 y1 y2;go_wp2_with fail
  generalize (w5.alloc (.cells #[.int .i64 2] 3)) = w6 at *;generalize w5.heap.size = g5 at *;clear lB y0 y1 y2;refine (HIF.out w6 HW6.out).mono ?_;rintro e w7 ⟨Ai, ci, ⟨rfl, -⟩, O7⟩;have HW7 := Hd (HW6.out.trans O7);have HB7 := Hd (O7.blk HB6.out (by simp));have HR7 := Hd (row_up (HR6.out.only O7 (by simp)));generalize (infL G).length = p1 at *;have hp1 := HL1.out;have HQ := Hd (HRP.out 2 _ 1 _ p1 w7 HR7.out (by omega));clear O7 HW6 HB6 HR6 HIF HB5 HW5 HL1 HR7;go_wp2_with fail
  refine (HQ.out).mono ?_;rintro e w8 ⟨V8, ⟨rfl, own8⟩, O8⟩;have HW8 := Hd (HW7.out.trans O8);have HB8 := Hd (O8.blk HB7.out (by simp));have HV8 := Hd (own_lower own8 (base' := w3.heap.size) HW7.out.size);obtain ⟨A8, c8, rfl, -, -, -, -⟩ := own_row own8;rw [ints_rep] at HV8;clear O8 own8 HQ HW7 HB7;go_upto_region 6 with (fail)
  have HB9 := Hd (HB8.out.alloc (.cells #[.int .i64 ((M : Int) + 2)] 3));have HW9 := Hd (HW8.out.alloc (.cells #[.int .i64 ((M : Int) + 2)] 3));have HV9 := Hd (own_only HV8.out ((Only.refl [] w8).alloc (.cells #[.int .i64 ((M : Int) + 2)] 3)) (by simp));have HR9 := Hd (row_up (row_lit w8 3 #[.int .i64 ((M : Int) + 2)]));have lB := HB9.out.lt;have y0 := HB9.out.at_ 0;have y1 := HB9.out.at_ 1;have y2 := HB9.out.at_ 2;simp at y0 y1 y2;go_wp2_with fail
  generalize (w8.alloc (.cells #[.int .i64 ((M : Int) + 2)] 3)) = w9 at *;generalize w8.heap.size = g8 at *;clear lB y0 y1 y2;refine (HLS.out w9 HW9.out).mono ?_;rintro e w10 ⟨Al, cl, ⟨rfl, -⟩, O10⟩;have HW10 := Hd (HW9.out.trans O10);have HB10 := Hd (O10.blk HB9.out (by simp));have HV10 := Hd (own_only HV9.out O10 (by simp));have HR10 := Hd (row_up (HR9.out.only O10 (by simp)));generalize (losL G).length = p2 at *;have hp2 := HL2.out;have HQ := Hd (HRP.out ((M : Int) + 2) _ 1 _ p2 w10 HR10.out (by omega));clear O10 HW9 HB9 HV9 HR9 HLS HW8 HB8 HV8 HL2 HR10;go_wp2_with fail
  refine (HQ.out).mono ?_;rintro e w11 ⟨V11, ⟨rfl, own11⟩, O11⟩;have HW11 := Hd (HW10.out.trans O11);have HB11 := Hd (O11.blk HB10.out (by simp));have HV11 := Hd (own_only HV10.out O11 (by simp));obtain ⟨A11, c11, rfl, -, -, -, hr11⟩ := own_row own11;rw [ints_rep] at hr11;have HR11 := Hd hr11;have hs11 := HW11.out.size;clear O11 own11 HQ HW10 HB10 HV10 hr11;go_wp2_with (
   at_builtin
   refine wpList_append_row _ rfl (.tmp 31) (.tmp 38) _ rfl w3.heap.size 3 i0 _ 1 8 Tryz.underlying32 hi hz0 hz1 hz2 rfl (by omega) (.slice A8 p1 c8) p1 ((List.replicate p1 (2 : Int)).map (Value.int .i64)) (by rfl) HV11.out w11.heap.size A11 p2 c11 ((List.replicate p2 ((M : Int) + 2)).map (Value.int .i64)) (by rfl) (by simp) HR11.out ints_one (by unfold maxLen; omega) (by omega) hs11 ?_;intro v12 w12 hown12 hgrow12 hat12;have HV12 := Hd hown12;have HB12 := Hd ((only_grown hgrow12).blk HB11.out (own_apart HV11.out HB11.out (by decide)));have HW12 := Hd (HW11.out.step (only_grown hgrow12) (fun i hi hl => by have := (HV11.out.lt i (by simpa using hi)).1; omega));obtain ⟨A12, c12, rfl, -, -, -, -⟩ := own_row hown12;have lB := HB12.out.lt;have y0 := HB12.out.at_ 0;have y1 := HB12.out.at_ 1;have y2 := HB12.out.at_ 2;simp at y0 y1 y2;clear hown12 hgrow12 hat12)
  clear lB y0 y1 y2;rw [← List.map_append] at HV12;clear HV11 HB11 HW11 HR11 hs11;have HB13 := Hd (HB12.out.alloc (.cells #[.int .i64 ((M : Int) + 1)] 3));have HW13 := Hd (HW12.out.alloc (.cells #[.int .i64 ((M : Int) + 1)] 3));have HV13 := Hd (own_only HV12.out ((Only.refl [] w12).alloc (.cells #[.int .i64 ((M : Int) + 1)] 3)) (by simp));have HR13 := Hd (row_up (row_lit w12 3 #[.int .i64 ((M : Int) + 1)]));generalize (w12.alloc (.cells #[.int .i64 ((M : Int) + 1)] 3)) = w13 at *;generalize w12.heap.size = g12 at *;refine (HRD.out w13 HW13.out).mono ?_;rintro e w14 ⟨rfl, O14⟩;have HW14 := Hd (HW13.out.trans O14);have HB14 := Hd (O14.blk HB13.out (by simp));have HV14 := Hd (own_only HV13.out O14 (by simp));have HR14 := Hd (row_up (HR13.out.only O14 (by simp)));have HQ := Hd (HRP.out ((M : Int) + 1) _ 1 _ p3 w14 HR14.out (by omega));clear O14 HW13 HB13 HV13 HR13 HRD HW12 HB12 HV12 HR14;go_wp2_with fail
  refine (HQ.out).mono ?_;rintro e w15 ⟨V15, ⟨rfl, own15⟩, O15⟩;have HW15 := Hd (HW14.out.trans O15);have HV15 := Hd (own_only HV14.out O15 (by simp));obtain ⟨A15, c15, rfl, -, -, -, hr15⟩ := own_row own15;rw [ints_rep] at hr15;have HR15 := Hd hr15;have hs15 := HW15.out.size;clear O15 own15 HQ HW14 HB14 HV14 hr15 HRP;go_wp2_with (
   at_builtin
   refine wpList_append_row _ rfl (.tmp 40) (.tmp 46) _ rfl w3.heap.size 3 i0 _ 1 8 Tryz.underlying32 hi hz0 hz1 hz2 rfl (by omega) (.slice A12 (p1 + p2) c12) (p1 + p2) ((List.replicate p1 (2 : Int) ++ List.replicate p2 ((M : Int) + 2)).map (Value.int .i64)) (by rfl) HV15.out w15.heap.size A15 p3 c15 ((List.replicate p3 ((M : Int) + 1)).map (Value.int .i64)) (by rfl) (by simp) HR15.out ints_one (by unfold maxLen; omega) (by omega) hs15 ?_;intro v16 w16 hown16 hgrow16 hat16;have HV16 := Hd hown16;have HW16 := Hd (HW15.out.step (only_grown hgrow16) (fun i hi hl => by have := (HV15.out.lt i (by simpa using hi)).1; omega));obtain ⟨A16, c16, rfl, -, -, -, -⟩ := own_row hown16;clear hown16 hgrow16 hat16)
  rw [← List.map_append] at HV16;clear HV15 HW15 HR15 hs15;generalize hL0 : List.replicate p1 (2 : Int) ++ List.replicate p2 ((M : Int) + 2) ++ List.replicate p3 ((M : Int) + 1) = L0 at *;have HV0 : Hid (w16.ownsRow w3.heap.size 3 1 (.slice A16 (p1 + p2 + p3) c16) (p1 + p2 + p3 + 0) ((L0 ++ upL 0).map (Value.int .i64))) := Hd (by simpa [upL] using HV16.out);have hP : p1 + p2 + p3 ≤ 2001000 := by omega
  generalize p1 + p2 + p3 = P at *;clear HV16
  go_loopw [10, 50] (fun v iv wr => ∃ k : Nat, iv = .int .i64 k ∧ k ≤ m2 + 1 ∧ Hid (wr.ownsRow w3.heap.size 3 1 v (P + k) ((L0 ++ upL k).map (Value.int .i64))) ∧ Hid (Only [] w3 wr)) (fun _ iv _ => m2 + 1 - (intOf iv).toNat)
  case atStart => exact ⟨0, rfl, by omega, HV0, HW16⟩
  case round =>
   obtain ⟨k, rfl, hk, hV, hO⟩ := hrel;obtain ⟨Ak, ck, rfl, -, -, -, -⟩ := own_row hV.out;have hsz := hO.out.size
   by_cases hlt : k < m2 + 1
   ·have h01 : (k : Int) < (m2 : Int) + 1 := by omega
    have hk0 : (0 : Int) ≤ (k : Int) := Int.natCast_nonneg _;have hwk : IntKind.i64.wrap ((k : Int) + 1) = (k : Int) + 1 := IntWalk.i64_in _ (by omega);go_wp2_with (
     at_builtin
     refine wpList_append_row _ rfl (.tmp 53) (.tmp 56) _ rfl w3.heap.size 3 i0 _ 1 8 Tryz.underlying32 hi hz0 hz1 hz2 rfl (by omega) _ (P + k) ((L0 ++ upL k).map (Value.int .i64)) (by rfl) (own_only hV.out ((Only.refl [] wr).alloc _) (by simp)) (wr.heap.size + 1) (some ⟨wr.heap.size, 0, none⟩) 1 1 [.int .i64 ((k : Int) + 1)] (by rfl) (by rfl) (row_lit wr 3 #[.int .i64 ((k : Int) + 1)]) (by intro u hu; simp at hu; subst hu; rfl) (by unfold maxLen; omega) (by omega) (by simp; omega) ?_;intro v4 w4 hown4 hgrow4 hat4;have HV4 := Hd hown4;have HO4 := Hd ((hO.out.alloc (.cells #[.int .i64 ((k : Int) + 1)] 3)).step (only_grown hgrow4) (fun i hi hl => by have := (hV.out.lt i (by simpa using hi)).1; omega));clear hown4 hgrow4 hat4)
    have HV5 : Hid (w4.ownsRow w3.heap.size 3 1 v4 (P + (k + 1)) ((L0 ++ upL (k + 1)).map (Value.int .i64))) := Hd (by
     have := HV4.out;rw [upL_succ, ← List.append_assoc, List.map_append];exact this)
    clear HV4 hV hO;go_wp2
    go_roundw
    case rel => exact ⟨k + 1, by go_num, by omega, HV5, HO4⟩
    case measure => simp [intOf]; omega
   ·obtain rfl : k = m2 + 1 := by omega
    have hd : decide (((m2 + 1 : Nat) : Int) < (m2 : Int) + 1) = false := by simp
    have HLF : Hid (L = L0 ++ upL (m2 + 1) ++ [(m2 : Int) + 1]) := Hd (by first | rw [HBL.out] | rw [HBL.out, hL0]);have HLN : Hid (L.length = P + (m2 + 1) + 1) := Hd (by rw [HLF.out, List.length_append, List.length_append, upL_len]; have := hV.out.1; rw [List.length_map, List.length_append, upL_len] at this; simp; omega);have HLB : Hid (∀ x ∈ L, x ≤ 9223372036854775807) := Hd (fun x hx => by
     rw [HLF.out] at hx;rcases List.mem_append.1 hx with hx | hx
     ·rcases List.mem_append.1 hx with hx | hx
      ·rw [← hL0] at hx;rcases List.mem_append.1 hx with hx | hx
       ·rcases List.mem_append.1 hx with hx | hx
        ·rw [List.eq_of_mem_replicate hx]; omega
        ·rw [List.eq_of_mem_replicate hx]; omega
       ·rw [List.eq_of_mem_replicate hx]; omega
      ·have := upL_mem hx; omega
     ·rw [List.mem_singleton] at hx; omega)
    clear HBL hL0;go_wp2_with (
     at_builtin
     refine wpList_append_row _ rfl (.tmp 59) (.tmp 62) _ rfl w3.heap.size 3 i0 _ 1 8 Tryz.underlying32 hi hz0 hz1 hz2 rfl (by omega) _ (P + (m2 + 1)) ((L0 ++ upL (m2 + 1)).map (Value.int .i64)) (by rfl) (own_only hV.out ((Only.refl [] wr).alloc _) (by simp)) (wr.heap.size + 1) (some ⟨wr.heap.size, 0, none⟩) 1 1 [.int .i64 ((m2 : Int) + 1)] (by rfl) (by rfl) (row_lit wr 3 #[.int .i64 ((m2 : Int) + 1)]) (by intro u hu; simp at hu; subst hu; rfl) (by unfold maxLen; omega) (by omega) (by simp; omega) ?_;intro v4 w4 hown4 hgrow4 hat4;have HO4 := Hd (HO3.out.trans ((hO.out.alloc (.cells #[.int .i64 ((m2 : Int) + 1)] 3)).step (only_grown hgrow4) (fun i hi hl => by have := (hV.out.lt i (by simpa using hi)).1; omega)));obtain ⟨A4, c4, rfl, -, -, -, hr4⟩ := own_row hown4;have HR4 := Hd hr4;clear hown4 hgrow4 hat4 hr4)
    have HPD := Hd (bproduct_any A4 (P + (m2 + 1) + 1) c4 _ L w4 (by have := HR4.out; rw [HLF.out, List.map_append]; exact this) HLN.out (by omega) HLB.out);rw [HR2.out] at HPD;dsimp only at HPD;clear HR4 hV hO;go_wp2_with fail
    refine (HPD.out).mono ?_;rintro e w6 ⟨rfl, rfl⟩;go_wp2
    go_ret2
    exact ⟨rfl, HO4.out⟩
 ·obtain ⟨rfl, rfl⟩ : ra = 0 ∧ rb = ye := by have := HR.out; rw [if_pos hye] at this; injection this with h1 h2; exact ⟨h1.symm, h2.symm⟩
  have hne : (rb != 0) = true := by simpa using hye
  have HO3 := Hd (HO2.out.alloc (.cells #[.slice B0 G.ss.length d0, .slice B1 G.ks.length d1, .slice B2 G.l.length d2] 25));clear hye;go_wp2
  go_ret2
  exact ⟨rfl, HO3.out⟩
end Go.Proofs.YtbiclliooidkjaaGreatDoor
