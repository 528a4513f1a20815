/- Parts. -/
import Derived.Test.YthdofaoamljkfaaGreatDoorLaw24AllK35
set_option maxRecDepth 10000
set_option maxHeartbeats 16000000
set_option linter.unusedVariables false
set_option linter.unusedSimpArgs false
namespace Go.Proofs.YthdofaoamljkfaaGreatDoor
open Go.RowKit
open Go.Lib hiding intOf
attribute [local go_sem ↓] Go.wp_at_zero Go.wp_at_succ
theorem info_strg : (Tryz.prog.info? 9).map (fun i => (i.zero, i.size, i.bytes)) = some (some (.string ⟨#[]⟩), 1, 16) := by kernel_rfl
theorem info_opp : (Tryz.prog.info? 70).map (fun i => (i.zero, i.size, i.bytes)) = some (some (.agg #[.bool false, .int .i64 0, .int .i64 0, .int .i64 0]), 4, 32) := by kernel_rfl
theorem add_any (x : Ev6) (base gm gv cv i : Nat) (m : Mk) (p : Pt) (xs : List PtA) (A0 A1 : Option Addr) (c0 c1 b : Nat) (D : DataW Unit) (w : World) (h : MkAt w base gm m (.slice (some ⟨gv, 0, none⟩) m.ps.length cv) xs A0 A1 c0 c1 b D) (hB : MkB m) (hp : m.ps[i]? = some p) (hs : x.y.size ≤ 65537) (hbase : base ≤ w.heap.size) (hT : UTabs w) :
  Calls Tryz.prog 109 #[.pointer (some ⟨gm, 0, none⟩), .pointer (some ⟨gv, i * 5, none⟩), .agg #[.int .i64 x.k, .string x.s, .string x.y, .int .i64 x.vk, .int .i64 x.vn, .int .i64 x.ln]] w fun e w' => e = .returned (.int .i64 (addE m p x)) ∧ Only (mine gm b (.slice (some ⟨gv, 0, none⟩) m.ps.length cv) xs) w w' ∧
   (addE m p x = 0 → ∃ V' xs' A0' A1' c0' c1' D', MkAt w' base gm (addM m i p x) V' xs' A0' A1' c0' c1' b D') := by
 obtain ⟨is_, his, his0, his1, his2⟩ := info_parts info_strg;obtain ⟨io, hio, hio0, hio1, hio2⟩ := info_parts info_opp;obtain ⟨xi, hxi, hxp⟩ : ∃ xi, xs[i]? = some xi ∧ xi.p = p := by
  rw [← h.parts, List.getElem?_map] at hp
  cases hx : xs[i]? with
  | none => rw [hx] at hp; cases hp
  | some xi => rw [hx] at hp; exact ⟨xi, rfl, Option.some.inj hp⟩
 obtain ⟨pi, Ai, ci, Zi, di⟩ := xi;have hpe : p = pi := hxp.symm;subst hpe;have hil := (List.getElem?_eq_some_iff.1 hxi).1;have HXI := Hd hxi;have hno := (hB.no p (List.mem_of_getElem? hp)).1;have HKN := Hd (hB.no p (List.mem_of_getElem? hp)).2.1;have hkn20 : p.ks.length ≤ 20 := by rw [HKN.out]; exact hno
 have HE := Hd (Blk.made w 104 #[.int .i64 x.k, .string x.s, .string x.y, .int .i64 x.vk, .int .i64 x.vn, .int .i64 x.ln]);have HO1 := Hd ((Only.refl [] w).alloc (.cells #[.int .i64 x.k, .string x.s, .string x.y, .int .i64 x.vk, .int .i64 x.vn, .int .i64 x.ln] 104));have HM1 := Hd (h.same HO1.out);have HW := Hd (fun w' (O : Only [] (w.alloc (.cells #[.int .i64 x.k, .string x.s, .string x.y, .int .i64 x.vk, .int .i64 x.vn, .int .i64 x.ln] 104)) w') => with_any A1 m.ks.length c1 _ m.ks x.y w' rfl (by have := hB.nk; omega) (fun z hz => by have := hB.zk z hz; omega) (by omega) (HM1.out.same O).t1 h.n1 (hT.only (HO1.out.trans O)));have hnp := hB.np;have hptl : (ptC xs).length = xs.length * 5 := ptC_len xs;clear h hT hB hp hs hxi;go_enter Tryz.func109, Tryz.ntmps109;go_upto_region 1 with (fail)
 generalize (w.alloc (.cells #[.int .i64 x.k, .string x.s, .string x.y, .int .i64 x.vk, .int .i64 x.vn, .int .i64 x.ln] 104)) = w1 at *;generalize hga : w.heap.size = ga at *;refine rg1 [] [] w1 ?_;refine tQ 0 (h := tQ 1 (h := tQ 2 (h := ?_)));refine trd (i := 3) (v := ?_) 0 ?_ ?_;rotate_left
 ·(intro wq hSw; have hb := hSw.blk HM1.out.blk (by simp); have hlb := hb.lt; have y2 := hb.at_ 2; have he := hSw.blk HE.out (by simp); have hle := he.lt; have v2 := he.at_ 2; simp at y2 v2; clear hSw; go_simp; try with_reducible rfl)
 (try simp only [tdz]);refine tQ 4 (h := ?_);refine trd (i := 5) (v := ?_) 0 ?_ ?_;rotate_left
 ·(intro wq hSw; have hb := hSw.blk HM1.out.blk (by simp); have hlb := hb.lt; have y2 := hb.at_ 2; have he := hSw.blk HE.out (by simp); have hle := he.lt; have v2 := he.at_ 2; simp at y2 v2; clear hSw; go_simp; try with_reducible rfl)
 (try simp only [tdz]);refine tst (i := 6) fun K hK => ?_;go_simp;refine (HW.out _ ((Only.refl [] _).drew)).mono ?_;rintro e w2 ⟨O2, A', k', c', rfl, hl, hr, hf⟩;have HWL := Hd (And.intro hl (And.intro hr hf));clear hl hr hf;refine kOut hK (((Only.refl [] w1).drew).trans O2) (h := ?_);clear hK K;refine tQ 7 (h := ?_);refine tdn ?_;have HNW := Hd ( (((Only.refl [] w1).drew).trans O2));have HM2 := Hd (HM1.out.same HNW.out);have HE2 := Hd (HNW.out.blk HE.out (by simp));have HO2 := Hd (HO1.out.trans HNW.out)
 -- the part's cells
 have hrow2 := HM2.out.row;have hown : (Value.slice (some ⟨gv, 0, none⟩) m.ps.length cv).ownBlock = some gv := rfl;have g4 : (ptC xs)[i * 5 + 4]? = some (.slice Zi p.ops.length di) := by
  have := ptC_get xs i _ HXI.out 4 (by omega);rw [this]
  rfl
 obtain ⟨z4, -⟩ := own_cell hrow2 hown g4;have hgv : gv < w2.heap.size := own_lt hrow2 (by rw [hown]; simp);clear hrow2 g4
 by_cases hk1 : p.ops.length = 20
 ·have d1 : ((p.ops.length : Int) == 20) = true := by simp; omega
  have HX : Hid (addE m p x = 7) := Hd (by unfold addE; rw [if_pos (.inl hk1)]);clear hk1;go_wp2
  go_ret
  exact ⟨by rw [HX.out]; rfl, HO2.out.wide (fun i hi => by cases hi), fun e => by rw [HX.out] at e; cases e⟩
 ·have d1 : ((p.ops.length : Int) == 20) = false := by simp; omega
  by_cases hp1 : 40 < k'
  ·have d2 : decide ((40 : Int) < (k' : Int)) = true := decide_eq_true (by omega);have HX : Hid (addE m p x = 7) := Hd (by unfold addE; rw [if_pos (.inr (by rw [HWL.out.1]; exact hp1))]);clear hp1 hk1;go_wp2
   go_ret
   exact ⟨by rw [HX.out]; rfl, HO2.out.wide (fun i hi => by cases hi), fun e => by rw [HX.out] at e; cases e⟩
  ·have d2 : decide ((40 : Int) < (k' : Int)) = false := decide_eq_false (by omega);have HX : Hid (addE m p x = 0 ∧ addM m i p x = ⟨m.ps.set i (addP p x), m.ss, withB m.ks x.y⟩) := Hd (by
    have : ¬ (p.ops.length = 20 ∨ (withB m.ks x.y).length > 40) := by rw [HWL.out.1]; omega
    unfold addE addM;rw [if_neg this, if_neg this];exact ⟨rfl, rfl⟩)
   have hop2 : p.ops.length < 20 := by omega
   clear hp1 hk1;have hb2 : Blk w2 gm 133 #[.slice (some ⟨gv, 0, none⟩) m.ps.length cv, .slice A0 m.ss.length c0, .slice A1 m.ks.length c1, .map (some b)] := HM2.out.blk;have hlb := hb2.lt;have hf1 := hb2.free 2;have z1 := hb2.at_ 2;simp at z1;have HB3 := Hd (hb2.put 2 (.slice A' k' c'));have HN3 := Hd ((Only.refl [gm] w2).put (p := ⟨gm, 2, none⟩) (by simp) (.slice A' k' c'));clear hb2;have hge : gm ≠ ga := HM2.out.blk.apart HE2.out (by decide);have hgvm : gv ≠ gm := fun e => own_apart HM2.out.row HM2.out.blk (by decide) (by rw [← e]; simp [Value.ownBlock]);have hgve : gv ≠ ga := fun e => own_apart HM2.out.row HE2.out (by decide) (by rw [← e]; simp [Value.ownBlock]);have HE3 := Hd (HN3.out.blk HE2.out (by simp; omega));have HROW3 := Hd (own_only HM2.out.row HN3.out (fun g hg => by rw [hown] at hg; obtain rfl := Option.some.inj hg; simpa using hgvm));have HKR3 : Hid ((w2.setCell ⟨gm, 2, none⟩ (.slice A' k' c')).ownsRow base 9 1 (.slice Ai p.ks.length ci) p.ks.length (strs p.ks)) := Hd (by
    have r1 := HM2.out.keys _ (List.mem_of_getElem? HXI.out);exact own_only r1 HN3.out (fun g hg hm => by simp at hm; subst hm; exact own_apart r1 HM2.out.blk (by decide) (by rw [hg]; simp)))
   have HOR3 : Hid ((w2.setCell ⟨gm, 2, none⟩ (.slice A' k' c')).ownsRow base 70 4 (.slice Zi p.ops.length di) p.ops.length (opC p.ops)) := Hd (by
    have r1 := HM2.out.ops _ (List.mem_of_getElem? HXI.out);exact own_only r1 HN3.out (fun g hg hm => by simp at hm; subst hm; exact own_apart r1 HM2.out.blk (by decide) (by rw [hg]; simp)))
   have hsz3 : base ≤ (w2.setCell ⟨gm, 2, none⟩ (.slice A' k' c')).heap.size ∧ w2.heap.size ≤ (w2.setCell ⟨gm, 2, none⟩ (.slice A' k' c')).heap.size := ⟨by have := HN3.out.size; have := HO2.out.size; omega, HN3.out.size⟩;go_upto_region 5 with (fail)
   clear z1 hf1 hlb z4;generalize (w2.setCell ⟨gm, 2, none⟩ (.slice A' k' c')) = w3 at *;obtain ⟨hb3, hw3⟩ := hsz3;have HG3 : Hid ((ptC xs)[i * 5 + 3]? = some (.slice Ai p.ks.length ci)) := Hd (by
    have := ptC_get xs i _ HXI.out 3 (by omega);rw [this]
    rfl)
   have hkl : (strs p.ks).length = p.ks.length := by simp [strs]
   generalize hnk : p.ks.length = nk at *;have HNK := Hd hnk;clear hnk;have RD0 := Hd fun wq (hSw : Only (Value.slice Ai nk ci).ownBlock.toList w3 wq) => aI (own_cell (own_only HROW3.out hSw (fun g hg hm => own_two HROW3.out HKR3.out (by decide) g hg hm)) hown HG3.out) (aI (own_lt (own_only HROW3.out hSw (fun g hg hm => own_two HROW3.out HKR3.out (by decide) g hg hm)) (g := gv) (by rw [hown]; simp)) (aI ((hSw.blk HE3.out (own_apart HKR3.out HE3.out (by decide))).lt) ((hSw.blk HE3.out (own_apart HKR3.out HE3.out (by decide))).at_ 2)));refine rgo (F := [⟨[], [11], fun w' => Only (Value.slice Ai nk ci).ownBlock.toList w3 w'⟩]) (th1 ((Only.refl _ w3).drew)) ?_;refine tQ 0 (h := tQ 1 (h := tQ 2 (h := tQ 3 (h := trq 4 0 RD0 (h := tQ 5 (h := trq 6 0 RD0 (h := ?_)))))));refine tst (i := 7) fun K hK => ?_;go_simp;have OA : Only [] w3 ((w3.alloc (.cells #[.string x.y] 9)).drew) := ((Only.refl [] w3).alloc _).drew;refine kOut hK (((Only.refl _ w3).alloc _).drew) (h := ?_);clear hK K;refine tst (i := 8) fun K hK => ?_;refine step_append_row _ rfl (.tmp 34) (.tmp 37) 22 rfl base 9 is_ _ 1 16 Tryz.underlying22 his his0 his1 his2 rfl (by omega) (Value.slice Ai nk ci) nk (strs p.ks) (by rfl) (own_only HKR3.out OA (by simp)) (w3.heap.size + 1) (some ⟨w3.heap.size, 0, none⟩) 1 1 [.string x.y] (by rfl) (by rfl) (by exact row_lit w3 9 #[.string x.y]) (by intro u hu; simp at hu; subst hu; rfl) (by unfold maxLen; omega) (by omega) (by have := OA.size; omega) ?_;intro v3 w4 hown3 hgrow hat;have HAT4 : Hid (v3.ownBlock = (Value.slice Ai nk ci).ownBlock ∨ ∃ g, v3.ownBlock = some g ∧ w2.heap.size ≤ g) := Hd (hat.imp id (fun e => ⟨_, e, by simp; omega⟩));obtain ⟨A4, c4, e3, -, -, -, -⟩ := own_row hown3;subst e3;have HO4 : Hid (Only (Value.slice Ai nk ci).ownBlock.toList w3 w4) := Hd (((Only.refl (Value.slice Ai nk ci).ownBlock.toList w3).alloc (.cells #[.string x.y] 9)).drew.step (only_grown hgrow) (fun j hj hl => hj));have HNR4 := Hd hown3;have rP := own_only HROW3.out HO4.out (fun g hg hm => own_two HROW3.out HKR3.out (by decide) g hg hm);have HPR4 := Hd rP;obtain ⟨cG, fG⟩ := own_cell rP hown HG3.out;have lG := own_lt rP (g := gv) (by rw [hown]; simp);clear hgrow hat OA hown3 rP;refine kOut hK (HO4.out) (h := ?_);clear hK K;refine tQ 9 (h := tQ 10 (h := ?_));refine tst (i := 11) fun K hK => ?_;go_simp;refine hK.out _ _ (timed_over (by kernel_rfl) (timed_nil)) ?_;clear hK K;(try simp only [tdz]);refine tdn ?_;have HP5 : Hid ((w4.setCell ⟨gv, i * 5 + 3, none⟩ (.slice A4 (nk + 1) c4)).ownsRow base 136 5 (.slice (some ⟨gv, 0, none⟩) m.ps.length cv) m.ps.length (ptC (xs.set i ⟨{ p with ks := p.ks ++ [x.y] }, A4, c4, Zi, di⟩))) := Hd (by
    have := own_set HPR4.out hown (j := i * 5 + 3) (by rw [hptl]; omega) (.slice A4 (nk + 1) c4)
    rwa [ptC_set xs i 3 _ ⟨{ p with ks := p.ks ++ [x.y] }, A4, c4, Zi, di⟩ _ HXI.out (by omega) (by
     show [Value.string p.s, .int .i64 p.f, .int .i64 p.ln, .slice A4 (p.ks ++ [x.y]).length c4, .slice Zi p.ops.length di] = [Value.string p.s, .int .i64 p.f, .int .i64 p.ln, .slice A4 (nk + 1) c4, .slice Zi p.ops.length di]
     rw [List.length_append, HNK.out]
     rfl)] at this)
   have ON5 : Only [gv] w4 (w4.setCell ⟨gv, i * 5 + 3, none⟩ (.slice A4 (nk + 1) c4)) := (Only.refl [gv] w4).put (p := ⟨gv, i * 5 + 3, none⟩) (by simp) _;have HN5 := Hd ON5;have HG5 : Hid ((ptC (xs.set i ⟨{ p with ks := p.ks ++ [x.y] }, A4, c4, Zi, di⟩))[i * 5 + 4]? = some (.slice Zi p.ops.length di)) := Hd (by
    rw [ptC_get _ i _ (List.getElem?_set_self hil) 4 (by omega)]
    rfl)
   have HKR5 := Hd (own_only HNR4.out ON5 (fun g hg hm => by simp at hm; subst hm; exact own_two HNR4.out HPR4.out (by decide) _ hg (by rw [hown]; simp)));have HOR4 := Hd (own_only HOR3.out HO4.out (fun g hg hm => own_two HOR3.out HKR3.out (by decide) g hg hm));have HOR5 := Hd (own_only HOR4.out ON5 (fun g hg hm => by simp at hm; subst hm; exact own_two HOR4.out HPR4.out (by decide) _ hg (by rw [hown]; simp)));have HE4 := Hd (HO4.out.blk HE3.out (own_apart HKR3.out HE3.out (by decide)));have HE5 := Hd (ON5.blk HE4.out (by simp; omega));have HB4 := Hd (HO4.out.blk HB3.out (own_apart HKR3.out HB3.out (by decide)));have HB5 := Hd (ON5.blk HB4.out (by simp; omega));have hsz5 : base ≤ (w4.setCell ⟨gv, i * 5 + 3, none⟩ (.slice A4 (nk + 1) c4)).heap.size ∧ w2.heap.size ≤ (w4.setCell ⟨gv, i * 5 + 3, none⟩ (.slice A4 (nk + 1) c4)).heap.size := ⟨by have := ON5.size; have := HO4.out.size; omega, by have := ON5.size; have := HO4.out.size; omega⟩;have hol : (opC p.ops).length = p.ops.length * 4 := opC_len _;clear ON5;go_upto_region 6 with (fail)
   clear cG fG lG;generalize (w4.setCell ⟨gv, i * 5 + 3, none⟩ (.slice A4 (nk + 1) c4)) = w5 at *;obtain ⟨hb5, hw5⟩ := hsz5;generalize hno' : p.ops.length = no at *;have HNO := Hd hno';clear hno';have RD0 := Hd fun wq (hSw : Only (Value.slice Zi no di).ownBlock.toList w5 wq) => aI (own_cell (own_only HP5.out hSw (fun g hg hm => own_two HP5.out HOR5.out (by decide) g hg hm)) hown HG5.out) (aI (own_lt (own_only HP5.out hSw (fun g hg hm => own_two HP5.out HOR5.out (by decide) g hg hm)) (g := gv) (by rw [hown]; simp)) (aI ((hSw.blk HE5.out (own_apart HOR5.out HE5.out (by decide))).lt) (aI ((hSw.blk HE5.out (own_apart HOR5.out HE5.out (by decide))).at_ 0) (aI ((hSw.blk HE5.out (own_apart HOR5.out HE5.out (by decide))).at_ 3) ((hSw.blk HE5.out (own_apart HOR5.out HE5.out (by decide))).at_ 4)))));refine rgo (F := [⟨[], [15], fun w' => Only (Value.slice Zi no di).ownBlock.toList w5 w'⟩]) (th1 ((Only.refl _ w5).drew)) ?_;refine tQ 0 (h := tQ 1 (h := tQ 2 (h := tQ 3 (h := trq 4 0 RD0 (h := tQ 5 (h := trq 6 0 RD0 (h := tQ 7 (h := tQ 8 (h := trq 9 0 RD0 (h := tQ 10 (h := ?_)))))))))));refine tst (i := 11) fun K hK => ?_;go_simp;have OA : Only [] w5 ((w5.alloc (.cells #[.bool (x.k == 3), .int .i64 0, .int .i64 x.vk, .int .i64 x.vn] 70)).drew) := ((Only.refl [] w5).alloc _).drew;refine kOut hK (((Only.refl _ w5).alloc _).drew) (h := ?_);clear hK K;refine tst (i := 12) fun K hK => ?_;refine step_append_row _ rfl (.tmp 45) (.tmp 52) 45 rfl base 70 io _ 4 32 Tryz.underlying45 hio hio0 hio1 hio2 rfl (by omega) (Value.slice Zi no di) no (opC p.ops) (by rfl) (own_only HOR5.out OA (by simp)) (w5.heap.size + 1) (some ⟨w5.heap.size, 0, none⟩) 1 1 [.bool (x.k == 3), .int .i64 0, .int .i64 x.vk, .int .i64 x.vn] (by rfl) (by rfl) (by exact row_lit w5 70 #[.bool (x.k == 3), .int .i64 0, .int .i64 x.vk, .int .i64 x.vn]) (by intro u hu; simp at hu; rcases hu with rfl | rfl | rfl | rfl <;> rfl) (by unfold maxLen; omega) (by omega) (by have := OA.size; omega) ?_;intro v3 w6 hown3 hgrow hat;have HAT6 : Hid (v3.ownBlock = (Value.slice Zi no di).ownBlock ∨ ∃ g, v3.ownBlock = some g ∧ w2.heap.size ≤ g) := Hd (hat.imp id (fun e => ⟨_, e, by simp; omega⟩));obtain ⟨A6, c6, e3, -, -, -, -⟩ := own_row hown3;subst e3;have HO6 : Hid (Only (Value.slice Zi no di).ownBlock.toList w5 w6) := Hd (((Only.refl (Value.slice Zi no di).ownBlock.toList w5).alloc (.cells #[.bool (x.k == 3), .int .i64 0, .int .i64 x.vk, .int .i64 x.vn] 70)).drew.step (only_grown hgrow) (fun j hj hl => hj));have HNR6 := Hd hown3;have rP := own_only HP5.out HO6.out (fun g hg hm => own_two HP5.out HOR5.out (by decide) g hg hm);have HPR6 := Hd rP;obtain ⟨cG, fG⟩ := own_cell rP hown HG5.out;have lG := own_lt rP (g := gv) (by rw [hown]; simp);clear hgrow hat OA hown3 rP;refine kOut hK (HO6.out) (h := ?_);clear hK K;refine tQ 13 (h := tQ 14 (h := ?_));refine tst (i := 15) fun K hK => ?_;go_simp;refine hK.out _ _ (timed_over (by kernel_rfl) (timed_nil)) ?_;clear hK K;(try simp only [tdz]);refine tdn ?_;have HP7 : Hid ((w6.setCell ⟨gv, i * 5 + 4, none⟩ (.slice A6 (no + 1) c6)).ownsRow base 136 5 (.slice (some ⟨gv, 0, none⟩) m.ps.length cv) m.ps.length (ptC (xs.set i ⟨addP p x, A4, c4, A6, c6⟩))) := Hd (by
    have := own_set HPR6.out hown (j := i * 5 + 4) (by rw [ptC_len, List.length_set]; omega) (.slice A6 (no + 1) c6)
    rwa [ptC_set _ i 4 _ ⟨addP p x, A4, c4, A6, c6⟩ _ (List.getElem?_set_self hil) (by omega) (by
     show [Value.string p.s, .int .i64 p.f, .int .i64 p.ln, .slice A4 (p.ks ++ [x.y]).length c4, .slice A6 (p.ops ++ [Op4.mk (decide (x.k = 3)) 0 x.vk x.vn]).length c6] = [Value.string p.s, .int .i64 p.f, .int .i64 p.ln, .slice A4 (p.ks ++ [x.y]).length c4, .slice A6 (no + 1) c6]
     have hln : (p.ops ++ [Op4.mk (decide (x.k = 3)) 0 x.vk x.vn]).length = no + 1 := by rw [List.length_append, HNO.out]; rfl
     rw [hln]), List.set_set] at this)
   have ON7 : Only [gv] w6 (w6.setCell ⟨gv, i * 5 + 4, none⟩ (.slice A6 (no + 1) c6)) := (Only.refl [gv] w6).put (p := ⟨gv, i * 5 + 4, none⟩) (by simp) _;have HKR7 := own_only (own_only HKR5.out HO6.out (fun g hg hm => own_two HKR5.out HOR5.out (by decide) g hg hm)) ON7 (fun g hg hm => by simp at hm; subst hm; exact own_two HKR5.out HP5.out (by decide) _ hg (by rw [hown]; simp));have HOR7 := own_only HNR6.out ON7 (fun g hg hm => by simp at hm; subst hm; exact own_two HNR6.out HPR6.out (by decide) _ hg (by rw [hown]; simp));have HB7 := ON7.blk (HO6.out.blk HB5.out (own_apart HOR5.out HB5.out (by decide))) (by simp; omega);have HS7 : Only (gm :: ((Value.slice (some ⟨gv, 0, none⟩) m.ps.length cv).ownBlock.toList ++ partB ⟨p, Ai, ci, Zi, di⟩)) w2 (w6.setCell ⟨gv, i * 5 + 4, none⟩ (.slice A6 (no + 1) c6)) := by
    have s3 := HN3.out.wide (T := gm :: ((Value.slice (some ⟨gv, 0, none⟩) m.ps.length cv).ownBlock.toList ++ partB ⟨p, Ai, ci, Zi, di⟩)) (fun i hi _ => by simp at hi; simp [hi]);have s4 := HO4.out.wide (T := gm :: ((Value.slice (some ⟨gv, 0, none⟩) m.ps.length cv).ownBlock.toList ++ partB ⟨p, Ai, ci, Zi, di⟩)) (fun i hi _ => by
     simp only [List.mem_cons, List.mem_append, partB];exact .inr (.inr (.inl (part_own.2 hi))))
    have s5 := HN5.out.wide (T := gm :: ((Value.slice (some ⟨gv, 0, none⟩) m.ps.length cv).ownBlock.toList ++ partB ⟨p, Ai, ci, Zi, di⟩)) (fun i hi _ => by simp at hi; rw [hown]; simp [hi]);have s6 := HO6.out.wide (T := gm :: ((Value.slice (some ⟨gv, 0, none⟩) m.ps.length cv).ownBlock.toList ++ partB ⟨p, Ai, ci, Zi, di⟩)) (fun i hi _ => by
     simp only [List.mem_cons, List.mem_append, partB];exact .inr (.inr (.inr (part_own.2 hi))))
    have s7 := ON7.wide (T := gm :: ((Value.slice (some ⟨gv, 0, none⟩) m.ps.length cv).ownBlock.toList ++ partB ⟨p, Ai, ci, Zi, di⟩)) (fun i hi _ => by simp at hi; rw [hown]; simp [hi]);exact (((s3.trans s4).trans s5).trans s6).trans s7
   have hbelow : Only (mine gm b (.slice (some ⟨gv, 0, none⟩) m.ps.length cv) xs) w (w6.setCell ⟨gv, i * 5 + 4, none⟩ (.slice A6 (no + 1) c6)) := (HO2.out.wide (fun i hi => by cases hi)).trans (HS7.wide (fun j hj _ => by
    rw [mine_mem];simp only [List.mem_cons, List.mem_append] at hj;rcases hj with h | h | h
    ·exact .inl h
    ·exact .inr (.inr (.inl h))
    ·exact .inr (.inr (.inr ⟨_, List.mem_of_getElem? HXI.out, h⟩))))
   have HFIN : MkAt (w6.setCell ⟨gv, i * 5 + 4, none⟩ (.slice A6 (no + 1) c6)) base gm ⟨m.ps.set i (addP p x), m.ss, withB m.ks x.y⟩ (.slice (some ⟨gv, 0, none⟩) m.ps.length cv) (xs.set i ⟨addP p x, A4, c4, A6, c6⟩) A0 A' c0 c' b D := by
    have hbx : (x.k == 3) = decide (x.k = 3) := by by_cases h : x.k = 3 <;> simp [h]
    refine mk_added (k' := k') (H := w1.heap.size) HM2.out HXI.out rfl rfl rfl HS7 ?_ HP7.out ?_ ?_ ?_ ?_ HWL.out.1 HWL.out.2.1 HWL.out.2.2 (fun i hi => mine_lt HM1.out i hi)
    ·simpa using HB7
    ·have e1 : (p.ks ++ [x.y]).length = nk + 1 := by rw [List.length_append, HNK.out]; rfl
     show World.ownsRow _ base _ 1 (.slice A4 (p.ks ++ [x.y]).length c4) (p.ks ++ [x.y]).length (strs (p.ks ++ [x.y]))
     rw [e1];have e2 : strs (p.ks ++ [x.y]) = strs p.ks ++ [.string x.y] := by simp [strs]
     rw [e2];exact HKR7
    ·have e1 : (p.ops ++ [Op4.mk (decide (x.k = 3)) 0 x.vk x.vn]).length = no + 1 := by rw [List.length_append, HNO.out]; rfl
     show World.ownsRow _ base _ 4 (.slice A6 (p.ops ++ [Op4.mk (decide (x.k = 3)) 0 x.vk x.vn]).length c6) (p.ops ++ [Op4.mk (decide (x.k = 3)) 0 x.vk x.vn]).length (opC (p.ops ++ [Op4.mk (decide (x.k = 3)) 0 x.vk x.vn]))
     rw [e1, opC_append, ← hbx];exact HOR7
    ·intro a ha;rcases HAT4.out with e | ⟨g, e, hg⟩
     ·rw [show A4 = some a from ha] at e;simp only [Value.ownBlock] at e
      cases hAi : Ai with
      | none => rw [hAi] at e; cases e
      | some a' =>
       rw [hAi] at e;exact .inl ⟨a', rfl, (Option.some.inj e).symm⟩
     ·rw [show A4 = some a from ha] at e;simp only [Value.ownBlock] at e;obtain rfl := Option.some.inj e;exact .inr hg
    ·intro a ha;rcases HAT6.out with e | ⟨g, e, hg⟩
     ·rw [show A6 = some a from ha] at e;simp only [Value.ownBlock] at e
      cases hAi : Zi with
      | none => rw [hAi] at e; cases e
      | some a' =>
       rw [hAi] at e;exact .inl ⟨a', rfl, (Option.some.inj e).symm⟩
     ·rw [show A6 = some a from ha] at e;simp only [Value.ownBlock] at e;obtain rfl := Option.some.inj e;exact .inr hg
   have HFF := Hd (And.intro hbelow HFIN);clear hbelow HFIN HS7 HKR7 HOR7 HB7 ON7;go_wp2
   go_ret
   exact ⟨by rw [HX.out.1]; rfl, HFF.out.1, fun _ => ⟨_, _, _, _, _, _, _, by rw [HX.out.2]; exact HFF.out.2⟩⟩
end Go.Proofs.YthdofaoamljkfaaGreatDoor
