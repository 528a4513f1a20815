/- Parts. -/
import Derived.Test.YthdofaoamljkfaaGreatDoorLaw24AllK15
import Derived.Test.YthdofaoamljkfaaGreatDoorLaw24AllK16
set_option maxRecDepth 10000
set_option maxHeartbeats 16000000
set_option linter.unusedVariables false
set_option linter.unusedSimpArgs false
namespace Go.Proofs.YthdofaoamljkfaaGreatDoor
open Go.RowKit
open Go.Lib hiding intOf
attribute [local go_sem ↓] Go.wp_at_zero Go.wp_at_succ
theorem info_rowc : (Tryz.prog.info? 26).map (fun i => (i.zero, i.size, i.bytes)) = some (some (.slice none 0 0), 1, 24) := by kernel_rfl
theorem zero_rowi (u : World) : (zeroValue 26).run Tryz.prog u = .ok (.slice none 0 0) u := by kernel_rfl
def capC (n : Nat) : Array Value := madeCells (Value.int .i64 0).cells (n + 1)
theorem make_cap (n : Nat) (hn : n ≤ 1000000) (w : World) : (Instr.makeSlice 26 (.int .i64 0) (.int .i64 ((n : Int) + 1))).run Tryz.prog w = .ok (.slice (some ⟨w.heap.size, 0, none⟩) 0 (n + 1)) (w.alloc (.cells (capC n) 3)) := by
 obtain ⟨i0, hi, hz0, hz1, hz2⟩ := info_parts info_int;have := run_make (P := Tryz.prog) w 26 3 i0 _ Tryz.underlying26 hi hz0 .i64 .i64 0 ((n : Int) + 1) (Int.le_refl _) (by omega) (by rw [hz2]; omega) (by omega);rw [hz1, show ((n : Int) + 1).toNat = n + 1 by omega, Nat.mul_one] at this;exact this
theorem own_cap (n : Nat) (hn : n ≤ 1000000) (w : World) : (w.alloc (.cells (capC n) 3)).ownsRow w.heap.size 3 1 (.slice (some ⟨w.heap.size, 0, none⟩) 0 (n + 1)) 0 [] :=
 World.ownsRow_made (size := 1) w _ (n + 1) (Nat.le_refl _) (by unfold maxLen; omega) (by unfold capC; rw [size_madeCells, Nat.mul_one])
theorem own_nomap {H : Type} {P : Program} {k : TypeId} {base' : Nat} {e' : TypeId} {q : IntKind} {b n' : Nat} {D : DataW H} {w : World} {base : Nat} {e : TypeId} {size : Nat} {v : Value} {n : Nat} {xs : List Value} (h : w.ownsRow base e size v n xs) (hG : w.ownsGroups P k base' e' q b n' D) : b ∉ v.ownBlock.toList := fun hm => by
 obtain ⟨es, clock, hb, -⟩ := hG
 cases hv : v.ownBlock with
 | none => rw [hv] at hm; cases hm
 | some g =>
  rw [hv] at hm;simp at hm;subst hm;obtain ⟨cur, hc⟩ := own_blk h hv;have := (show w.heap[b]? = _ from hc).symm.trans hb;simp at this
theorem row_map {w w' : World} {B : Nat} {A : Option Addr} {xs : List Value} {b : Nat} (h : Row w B A xs) {es : Array MapEntry} {clock : Nat} (hb : w.heap[b]? = some (.map es clock)) (ho : Only [b] w w') : Row w' B A xs := by
 rcases h with rfl | ⟨c, off, hA, hlt, hs, hc⟩
 ·exact .inl rfl
 ·cases xs with
  | nil => exact .inl rfl
  | cons u r =>
   have hne : c ≠ b := by
    rintro rfl;have h0 := hc 0 u rfl;unfold World.cell? at h0;simp [hb] at h0
   refine .inr ⟨c, off, hA, hlt, Nat.le_trans hs ho.size, fun j u' hu => ?_⟩;rw [ho.cell (p := ⟨c, off + j, none⟩) (Nat.lt_of_lt_of_le hlt hs) (by simpa using hne)];exact hc j u' hu
theorem lit_kept {w w' : World} {b : Nat} {x : Value} {t : TypeId} (ho : Only [b] (w.alloc (.cells #[x] t)) w') (hb : w.heap.size ≠ b) : ∀ j u, [x][j]? = some u → w'.cell? ((⟨w.heap.size, 0, none⟩ : Addr).add j) = some u := by
 intro j u hj
 cases j with
 | zero =>
  simp at hj;subst hj;have h1 := (ho.blk (Blk.made w t #[x]) (by simpa using hb)).at_ 0
  simpa [Addr.add] using h1
 | succ j => simp at hj
theorem only_some {w w' : World} {b : Nat} (h : w.grownBy w' (some b)) : Only [b] w w' := Only.of_grown h (fun x hx _ => by cases hx; simp)
theorem may_kind {k n : Int} (h : mayB k n = true) : 0 ≤ k ∧ k ≤ 2 := by
 unfold mayB at h;simp at h;omega
theorem plC_at {l : List (Int × Int)} {k : Nat} {x : Int × Int} (h : l[k]? = some x) : (placeC l)[k * 2]? = some (.int .i64 x.1) ∧ (placeC l)[k * 2 + 1]? = some (.int .i64 x.2) :=
 ⟨flat_get (fun e : Int × Int => [.int .i64 e.1, .int .i64 e.2]) 2 (fun _ => rfl) l k x h 0 (by omega), flat_get (fun e : Int × Int => [.int .i64 e.1, .int .i64 e.2]) 2 (fun _ => rfl) l k x h 1 (by omega)⟩
theorem wf_nat24 {n : Nat} (h : n ≤ 1000) : (Lit.int .i64 (n : Int)).wf = true := WalkArith.wf_i64 (by omega)
theorem wf_i24 {n : Int} (h : -9223372036854775808 ≤ n ∧ n ≤ 9223372036854775807) : (Lit.int .i64 n).wf = true := WalkArith.wf_i64 (by omega)
theorem wrcho_any (A0 A1 A2 : Option Addr) (n0 n1 n2 c0 c1 c2 B : Nat) (h : Hst) (w : World) (hg : HIn w B A0 A1 A2 n0 n1 n2 h) (hw : wholeB h = true) (hI : HInt h) :
  Calls Tryz.prog 26 #[hval A0 A1 A2 n0 n1 n2 c0 c1 c2] w fun e w' => ∃ (V : Value) (xs : List SlI), (e = .returned V ∧ w'.ownsRow w.heap.size 26 1 V xs.length (xs.map siC) ∧ xs.map (fun x => x.l) = choL h ∧ ∀ x ∈ xs, w'.ownsRow w.heap.size 3 1 (siC x) x.l.length (x.l.map (Value.int .i64))) ∧ Only [] w w' := by
 obtain ⟨i0, hi, hz0, hz1, hz2⟩ := info_parts info_int;obtain ⟨i1, hi1, hy0, hy1, hy2⟩ := info_parts info_rowc;have hm := whole_may hw;have hn2 : n2 ≤ 40 := by rw [← hg.n2]; exact (may_ops hm).1
 have HOP := Hd (fun t (ht : t ∈ h.l) => may_keys24 hm ht);have HVK := Hd (fun t (ht : t ∈ h.l) o (ho : o ∈ t.ops) => may_kind ((may_ops hm).2.2 t ht o ho).2.2.1);have HKC := Hd (fun w' (O : Only [] w w') => kcom_any A0 A1 A2 n0 n1 n2 c0 c1 c2 B h w' (hg.same O).at_.r2 hg.n2 (by omega));have HRDS := Hd (fun w' (O : Only [] w w') => wrreads_any A0 A1 A2 n0 n1 n2 c0 c1 c2 B h w' (hg.same O) hm);have HG := Hd (fun w' (O : Only [] w w') => (hg.same O).at_.r2);have HIN := Hd hI;have HWH := Hd hw;have hwl := which_le comT h.l;rw [hg.n2] at hwl;have HN2 := Hd hg.n2;rw [show (fun t : Tx => decide (t.f = 1)) = comT from rfl] at HKC;obtain ⟨nc, hnc⟩ : ∃ nc, (whichL comT h.l).length = nc := ⟨_, rfl⟩;rw [hnc] at HKC hwl;have HNC := Hd hnc;unfold hval at *;clear hg hm hnc hw hI;have O1 : Only [] w ((w.alloc (.cells #[.slice A0 n0 c0, .slice A1 n1 c1, .slice A2 n2 c2] 25)).alloc (.map #[] 0)) := ((Only.refl [] w).alloc _).alloc _;have HO1 := Hd O1;have HB1 := Hd ((Blk.made w 25 #[.slice A0 n0 c0, .slice A1 n1 c1, .slice A2 n2 c2]).alloc (.map #[] 0));have HM1 : Hid (((w.alloc (.cells #[.slice A0 n0 c0, .slice A1 n1 c1, .slice A2 n2 c2] 25)).alloc (.map #[] 0)).heap[w.heap.size + 1]? = some (.map #[] 0)) := Hd (by have := (MapKept.heap_alloc (w.alloc (.cells #[.slice A0 n0 c0, .slice A1 n1 c1, .slice A2 n2 c2] 25)) (.map #[] 0)).1; simpa using this);clear O1;go_enter Tryz.func26, Tryz.ntmps26;have hmm := @run_makeMap Tryz.prog;go_upto_region 2 with (fail)
 clear hmm;generalize ((w.alloc (.cells #[.slice A0 n0 c0, .slice A1 n1 c1, .slice A2 n2 c2] 25)).alloc (.map #[] 0)) = w1 at *;generalize hgb : w.heap.size + 1 = b at *;have hgB : w.heap.size ≠ b := by omega
 generalize hgg : w.heap.size = g at *;have lB := HB1.out.lt;have y0 := HB1.out.at_ 0;have y1 := HB1.out.at_ 1;have y2 := HB1.out.at_ 2;simp at y0 y1 y2;have hgl : g ≤ w1.heap.size := by omega
 go_wp2_with fail
 refine (HKC.out _ HO1.out).mono ?_;rintro e w2 ⟨AC, cC, ⟨rfl, hR2⟩, O2⟩;have hbl : b < w1.heap.size := (Array.getElem?_eq_some_iff.1 HM1.out).1;have HM2 : Hid (w2.heap[b]? = some (.map #[] 0)) := Hd ((O2.keeps b hbl (by simp)).trans HM1.out);have hbw : b < w2.heap.size := by have := O2.size; omega
 have HG2 : Hid (w2.ownsGroups (H := Unit) Tryz.prog 72 w2.heap.size 3 .i64 b 0 (.map [])) := Hd (groups_empty HM2.out hbw);have HR2 := Hd hR2;have HO2 := Hd (HO1.out.trans O2);have HB2 := Hd (O2.blk HB1.out (by simp));have hgw : g ≤ w2.heap.size := by have := HO2.out.size; omega
 clear O2 HO1 HB1 HM1 hR2 HKC lB y0 y1 y2 hbl hgl;go_wp2_with fail
 go_loopw [21] (fun iv wr => ∃ (q : Nat) (D : DataW Unit), iv = .int .i64 (q : Int) ∧ q ≤ nc ∧ Hid (wr.ownsGroups Tryz.prog 72 w2.heap.size 3 .i64 b (q * 20) D) ∧ Hid (GrIs D (gaQ h.l q)) ∧ Hid (Only [b] w2 wr)) (fun iv _ => nc - (intOf iv).toNat)
 case atStart => exact ⟨0, _, rfl, by omega, HG2, Hd GrIs.start, Hd (Only.refl _ w2)⟩
 case round =>
  obtain ⟨q, D, rfl, hq, hGr, hV, hO⟩ := hrel;clear HG2;have HOW := Hd (HO2.out.step hO.out (fun i hi hl => by simp at hi; omega))
  by_cases hlt : q < nc
  ·obtain ⟨z, hz⟩ : ∃ z, (whichL comT h.l)[q]? = some z := ⟨_, List.getElem?_eq_getElem (by rw [HNC.out]; exact hlt)⟩;obtain ⟨i, t, rfl, ht, -, -⟩ := which_get hz;have HGA := Hd (fun j (hj : (lastR t.ops).length ≤ j) key v => gaJ_all hz ht hj key v);have HGS := Hd (fun (j : Nat) (o : Op4) (ho : (lastR t.ops)[j]? = some o) key v => gaJ_step (l := h.l) (q := q) (i := i) ho key v);have HOI := Hd (fun o (ho : o ∈ lastR t.ops) => aI (HIN.out t (List.mem_of_getElem? ht) o (lastR_mem _ o ho)) (HVK.out t (List.mem_of_getElem? ht) o (lastR_mem _ o ho)));obtain ⟨hko, hol⟩ := HOP.out t (List.mem_of_getElem? ht);have HKO := Hd (fun o (ho : o ∈ lastR t.ops) => hko o (lastR_mem _ o ho));have hlr := lastR_le t.ops;have hi2 : i < n2 := by rw [← HN2.out]; exact (List.getElem?_eq_some_iff.1 ht).1
   obtain ⟨bc, oc, rfl, -, hbc, hcc⟩ := (row_map HR2.out HM2.out hO.out).open_ (k := q) (by rw [List.length_map, HNC.out]; exact hlt);have d0 := hcc q _ (by rw [List.getElem?_map, hz]; rfl);obtain ⟨bt, off, A', cp, rfl, -, hbt, hTA, hTO⟩ := (HG.out _ HOW.out).at_ ht;have x2 := hTA.c2;dsimp only at x2;have HLA := Hd (fun w' (O : Only [] wr w') => klast_any A' t.ops.length cp B t.ops w' (hTO.row.only O (by simp)) rfl (by omega) hko);have HB4 := Hd (hO.out.blk HB2.out (by simpa using hgB));have lB := HB4.out.lt;have y2 := HB4.out.at_ 2;simp at y2;obtain ⟨nl, hnl⟩ : ∃ nl, (lastR t.ops).length = nl := ⟨_, rfl⟩;rw [hnl] at HLA hlr HGA;have HNL := Hd hnl;generalize lastR t.ops = L at *;have hnl2 : nl ≤ 20 := by omega
   generalize t.ops.length = nt at *;have h01 : (q : Int) < (nc : Int) := by omega
   have hq0 : (0 : Int) ≤ (q : Int) := Int.natCast_nonneg _;have hi0 : (0 : Int) ≤ (i : Int) := Int.natCast_nonneg _;have hi3 : (i : Int) < (n2 : Int) := by omega
   have hwq : IntKind.i64.wrap ((q : Int) + 1) = (q : Int) + 1 := IntWalk.i64_in _ (by omega);have hsz := hO.out.size;clear hcc hTA hTO hz ht hko hnl hlr;go_wp2_with fail
   refine (HLA.out _ (Only.refl [] _)).mono ?_;rintro e w4 ⟨VU, ⟨rfl, hU4⟩, O4⟩;obtain ⟨AU, cU, rfl, -, -, -, -⟩ := own_row hU4;have HU4 := Hd (own_from hU4 hsz);have HG4 := Hd (groups_only hGr.out O4 (by simp) (by simp));have HV4 : Hid (GrIs D (gaJ h.l q i L 0)) := Hd (hV.out.cong fun k v => gaJ_zero _ _ _ _ _ _);have HO4 := Hd (hO.out.step O4 (by simp));clear O4 hU4 hGr hV hO hsz HLA HB4 lB y2 x2 d0 hbc hbt HOW;obtain ⟨wo, hwo⟩ : ∃ wo : World, wo = wr := ⟨_, rfl⟩;subst hwo;go_wp2_with fail
   go_loopw [33] (fun iv wr => ∃ (j : Nat) (D : DataW Unit), iv = .int .i64 (j : Int) ∧ j ≤ nl ∧ Hid (wr.ownsGroups Tryz.prog 72 w2.heap.size 3 .i64 b (q * 20 + j) D) ∧ Hid (GrIs D (gaJ h.l q i L j)) ∧ Hid (wr.ownsRow w2.heap.size 70 4 (.slice AU nl cU) nl (opC L)) ∧ Hid (Only [b] w2 wr)) (fun iv _ => nl - (intOf iv).toNat)
   case atStart => exact ⟨0, D, rfl, by omega, HG4, HV4, HU4, HO4⟩
   case round =>
    obtain ⟨j, D, rfl, hj, hGr, hV, hU, hO⟩ := hrel;clear HG4 HV4 HU4 HO4;have hsz := hO.out.size
    by_cases hlj : j < nl
    ·obtain ⟨y, hy⟩ : ∃ y, L[j]? = some y := ⟨_, List.getElem?_eq_getElem (by rw [HNL.out]; exact hlj)⟩;have HST := Hd (HGS.out j y hy);obtain ⟨hvn, hvk⟩ := HOI.out y (List.mem_of_getElem? hy);obtain ⟨hy0, hy40⟩ := HKO.out y (List.mem_of_getElem? hy);obtain ⟨bu, ou, rfl, -, hbu, hP⟩ := row_op (own_row_at hU.out).1 hy;obtain ⟨p0, p1, p2, p3⟩ := hP;obtain ⟨yw, yk, yv, yn⟩ := y;unfold OpI at hvn;dsimp only at p0 p1 p2 p3 hy0 hy40 HST hvn hvk;have hwf : WWf (yk, (yv, yn)) := ⟨wf_i24 (by dsimp only; omega), wf_i24 (by dsimp only; omega), wf_i24 (by dsimp only; omega)⟩;have hwi : (Lit.int .i64 (i : Int)).wf = true := wf_nat24 (by omega);have HKW := Hd (key_what hwf);have HVW := Hd (hV.out.2 _ hwf);have HPT := Hd (fun (d : DataW Unit) (hd : ItIs d (gaJ h.l q i L (j + 1) yk (yv, yn))) => GrIs.put (g := gaJ h.l q i L (j + 1)) hV.out (u := (yk, (yv, yn))) hwf hd (fun v hv => by
      rw [HST.out];exact if_neg (fun c => hv (Prod.ext c.1.symm c.2.symm))))
     have HSU : Hid (gaJ h.l q i L (j + 1) yk (yv, yn) = gaJ h.l q i L j yk (yv, yn) ++ [(i : Int)]) := Hd (by rw [HST.out]; exact if_pos ⟨rfl, rfl⟩);have hgl := gaJ_len h.l q i L j yk (yv, yn);have h02 : (j : Int) < (nl : Int) := by omega
     have hj0 : (0 : Int) ≤ (j : Int) := Int.natCast_nonneg _;have hwj : IntKind.i64.wrap ((j : Int) + 1) = (j : Int) + 1 := IntWalk.i64_in _ (by omega);have hbr : bu < wr.heap.size := hbu;have HBU := Hd (own_nomap hU.out hGr.out);clear hV hy hwf hbu;go_upto_region 8 with (fail)
     have O5 : Only [] wr (wr.alloc (.cells #[.bool yw, .int .i64 yk, .int .i64 yv, .int .i64 yn] 70)) := (Only.refl [] wr).alloc _;have HT5 := Hd (Blk.made wr 70 #[.bool yw, .int .i64 yk, .int .i64 yv, .int .i64 yn]);have HG5 := Hd (groups_only hGr.out O5 (by simp) (by simp));have HU5 := Hd (own_only hU.out O5 (by simp));have HO5 := Hd (hO.out.step O5 (by simp));clear p0 p1 p2 p3 O5 hGr hU hO hbr;generalize (wr.alloc (.cells #[.bool yw, .int .i64 yk, .int .i64 yv, .int .i64 yn] 70)) = w5 at *;generalize wr.heap.size = gt at *;have lT := HT5.out.lt;have t1 := HT5.out.at_ 1;have t2 := HT5.out.at_ 2;have t3 := HT5.out.at_ 3;simp at t1 t2 t3;go_upto_region 9 with (fail)
     have O6 : Only [] w5 (w5.alloc (.cells #[.int .i64 yk, .int .i64 yv, .int .i64 yn] 72)) := (Only.refl [] w5).alloc _;have HT6 := Hd (Blk.made w5 72 #[.int .i64 yk, .int .i64 yv, .int .i64 yn]);have HG6 := Hd (groups_only HG5.out O6 (by simp) (by simp));have HU6 := Hd (own_only HU5.out O6 (by simp));have HO6 := Hd (HO5.out.step O6 (by simp));clear lT t1 t2 t3 O6 HG5 HU5 HO5 HT5;generalize (w5.alloc (.cells #[.int .i64 yk, .int .i64 yv, .int .i64 yn] 72)) = w6 at *;generalize w5.heap.size = gw at *;have lW := HT6.out.lt;have s0 := HT6.out.at_ 0;have s1 := HT6.out.at_ 1;have s2 := HT6.out.at_ 2;simp at s0 s1 s2;have hb6 := groups_lt HG6.out;have OL : Only [] w6 (w6.alloc (.cells #[.int .i64 (i : Int)] 3)) := (Only.refl [] w6).alloc _;have HGL := Hd (groups_only HG6.out OL (by simp) (by simp));have HUL := Hd (own_only HU6.out OL (by simp));have HOL := Hd (HO6.out.step OL (by simp));have hs6 := HO6.out.size;clear OL;go_wp2_with (first
      | (refine wpList_mapEntry_groups _ rfl (.tmp 42) (.tmp 43) 65 rfl 72 26 3 .i64 law_what Tryz.underlying65 zero_rowi w2.heap.size b (q * 20 + j) D rfl HGL.out (by unfold maxLen; omega) (agW (yk, (yv, yn))) (kW3 (yk, (yv, yn))) rfl HKW.out ?_; intro v zs st w7 hat hoi hzl hgr7 hback; have HAT := Hd hat; have HOI7 := Hd hoi; have HZL := Hd hzl; have O7 := only_some hgr7; have HO7 := Hd (HOL.out.step O7 (fun i hi _ => hi)); have HU7 := Hd (own_only HUL.out O7 (fun g hg hm => own_nomap HUL.out HGL.out (by simp at hm; subst hm; rw [hg]; simp))); have HLK := Hd (lit_kept O7 (by omega)); have HBK := Hd hback; have hs7 := HO7.out.size; clear hat hoi hzl hgr7 hback O7)
      | (at_builtin; refine wpList_append_own_at _ rfl (.tmp 44) (.tmp 46) _ rfl w2.heap.size 3 i0 _ 1 8 Tryz.underlying26 hi hz0 hz1 hz2 rfl (by omega) v zs.length (zs.map (Value.int .i64)) rfl HOI7.out.1 ⟨w6.heap.size, 0, none⟩ 1 1 [.int .i64 (i : Int)] rfl rfl HLK.out (by simp [Value.oneCell']) (by have := HZL.out; unfold maxLen; omega) (by have := HZL.out; omega) hs7 ?_; intro v8 w8 hown8 hgr8 hnil8 hat8; have hz := HZL.out; obtain ⟨w9, hrun, hG9, hgr9⟩ := HBK.out w8 v8 (zs ++ [(i : Int)]) hgr8 (HOI7.out.appended hown8 hwi) (by simp; omega) (by rcases hat8 with e | e; exact .inl e; exact .inr ⟨_, e, Nat.le_refl _⟩); have HOI8 := Hd (HOI7.out.appended hown8 hwi); have O8 := only_grown hgr8; have O9 := only_some hgr9; have HU8 := Hd (own_only HU7.out O8 (own_two HU7.out HOI7.out.1 (by decide))); have HO8 := Hd (HO7.out.step O8 (fun x hx hl => by have := (HOI7.out.1.lt x (by simpa using hx)).1; omega)); have HRUN := Hd hrun; have HG9 := Hd hG9; clear hown8 hgr8 hnil8 hat8 hgr9 hrun hG9)
      | (refine wpList_entryStore_run _ w9 rfl (.tmp 42) (.tmp 49) (.tmp 48) 65 rfl b _ _ rfl rfl rfl HRUN.out ?_; have HU9 := Hd (own_only HU8.out O9 (fun g hg hm => HBU.out (by simp at hm; subst hm; rw [hg]; simp))); have HO9 := Hd (HO8.out.step O9 (fun i hi _ => hi)); have HZS := Hd ((ItIs.owns HOI7.out).same (by have h9 := HVW.out; rw [HAT.out] at h9; exact h9)); have HV9 := Hd (HPT.out _ (by rw [HSU.out, ← HZS.out]; exact ItIs.owns HOI8.out)); clear O8 O9))
     go_roundw
     case rel => exact ⟨j + 1, _, by go_num, by omega, HG9, HV9, HU9, HO9⟩
     case measure => simp [intOf]; omega
    ·obtain rfl : j = nl := by omega
     have HV9 : Hid (GrIs D (gaQ h.l (q + 1))) := Hd (hV.out.cong fun k v => (HGA.out j (Nat.le_refl _) k v).symm);have HG9 := Hd (groups_mono hGr.out (n' := (q + 1) * 20) (by omega));have HO9 := hO;clear hV hU hO hGr;go_wp2
     go_roundw
     case rel => exact ⟨q + 1, _, by go_num, by omega, HG9, HV9, HO9⟩
     case measure => simp [intOf]; omega
  ·obtain rfl : q = nc := by omega
   have HVL := Hd (hV.out.cong (g := fun k v => leavs k v h.l) fun k v => (gaQ_all h.l (by rw [HNC.out]; exact Nat.le_refl _) k v).symm);have HB4 := Hd (hO.out.blk HB2.out (by simpa using hgB));have HRD := Hd (HRDS.out _ HOW.out);have HCH := Hd (fun (p : Nat) (x : Int × Int) hp => choL_at HWH.out (whole_f HWH.out) (q := p) (p := x) hp);have HCL := Hd (choL_len h);have hnq : (rdsL h.l).length ≤ q * 20 := by
    have := rdsQ_le (fun t (ht : t ∈ h.l) => (HOP.out t ht).2) q
    rwa [rdsQ_all h.l (by rw [HNC.out]; exact Nat.le_refl _)] at this
   obtain ⟨np, hnp⟩ : ∃ np, (rdsL h.l).length = np := ⟨_, rfl⟩;have HNP := Hd hnp;rw [hnp] at HRD hnq HCL;have hws := hO.out.size;have lB := HB4.out.lt;have y0 := HB4.out.at_ 0;have y1 := HB4.out.at_ 1;have y2 := HB4.out.at_ 2;simp at y0 y1 y2;obtain ⟨wo, hwo⟩ : ∃ wo : World, wo = wr := ⟨_, rfl⟩;subst hwo;clear hV hO hnp;go_wp2_with fail
   refine (HRD.out).mono ?_;rintro e w3 ⟨VR, ⟨rfl, hR3⟩, O3⟩;obtain ⟨AR, cR, rfl, -, -, -, -⟩ := own_row hR3;have HR3 := Hd hR3;have HG3 := Hd (groups_only hGr.out O3 (by simp) (by simp));have HO3 := Hd (HOW.out.trans O3);have HB3 := Hd (O3.blk HB4.out (by simp));have hg3 : g ≤ w3.heap.size := by have := HO3.out.size; omega
   have hw3 : w2.heap.size ≤ w3.heap.size := by have := O3.size; omega
   clear hR3 O3 hGr HOW HB4 HRD lB y0 y1 y2 hws;go_wp2_with fail
   go_loopw [9, 55] (fun V iv wr => ∃ (p : Nat) (xs : List SlI), iv = .int .i64 (p : Int) ∧ p ≤ np ∧ Hid (xs.map (fun x => x.l) = (choL h).take p) ∧ Hid (wr.ownsRow w3.heap.size 26 1 V xs.length (xs.map siC)) ∧ Hid (∀ x ∈ xs, wr.ownsRow w3.heap.size 3 1 (siC x) x.l.length (x.l.map (Value.int .i64))) ∧ Hid (Only [] w3 wr)) (fun _ iv _ => np - (intOf iv).toNat)
   case atStart => exact ⟨0, [], rfl, by omega, Hd rfl, Hd (World.ownsRow_nil _ _ _ _), Hd (fun x hx => by cases hx), Hd (Only.refl [] w3)⟩
   case round =>
    obtain ⟨p, xs, rfl, hp, hxs, hV, hX, hO⟩ := hrel
    by_cases hlp : p < np
    ·obtain ⟨pl, hpl⟩ : ∃ pl, (rdsL h.l)[p]? = some pl := ⟨_, List.getElem?_eq_getElem (by rw [HNP.out]; exact hlp)⟩;obtain ⟨i, k, t, o, rfl, ht, -, ho, -, hcp⟩ := HCH.out p pl hpl;have HCP := Hd hcp;have hot := List.mem_of_getElem? ho;have htm := List.mem_of_getElem? ht;have hvn := HIN.out t htm o hot;have hvk := HVK.out t htm o hot;have hv2 := whole_kinds HWH.out htm hot;obtain ⟨hk0, hk40⟩ := (HOP.out t htm).1 o hot;have hol := (HOP.out t htm).2;have HCA := Hd (choA_nil h.l i o (by omega));have hi2 : i < n2 := by rw [← HN2.out]; exact (List.getElem?_eq_some_iff.1 ht).1
     have hkm := (List.getElem?_eq_some_iff.1 ho).1;obtain ⟨br, obr, rfl, -, hbr, hcr⟩ := (own_row_at (own_only HR3.out hO.out (by simp))).1.open_ (k := p * 2) (by rw [(own_only HR3.out hO.out (by simp)).1]; omega);have e0 := hcr (p * 2) _ (plC_at hpl).1;have e1 := hcr (p * 2 + 1) _ (plC_at hpl).2;rw [← Nat.add_assoc] at e1;obtain ⟨bt, off, A', cp, rfl, -, hbt, hTA, hTO⟩ := (HG.out _ (HO3.out.trans hO.out)).at_ ht;obtain ⟨bo, oo, rfl, -, hbo, hP⟩ := row_op hTO.row ho;have HTC := Hd hTA.c2;have HPO := Hd hP;obtain ⟨ow, ok, ov, on⟩ := o;unfold OpI at hvn;dsimp only at HTC HPO HCA hvn hvk hv2 hk0 hk40 e0 e1;have hwf : WWf (ok, (ov, on)) := ⟨wf_i24 (by dsimp only; omega), wf_i24 (by dsimp only; omega), wf_i24 (by dsimp only; omega)⟩;have HKW := Hd (key_what hwf);have HVW := Hd (HVL.out.2 _ hwf);generalize t.ops.length = m at *;have h01 : (p : Int) < (np : Int) := by omega
     have hp0 : (0 : Int) ≤ (p : Int) := Int.natCast_nonneg _;have hi0 : (0 : Int) ≤ (i : Int) := Int.natCast_nonneg _;have hk1 : (0 : Int) ≤ (k : Int) := Int.natCast_nonneg _;have hi3 : (i : Int) < (n2 : Int) := by omega
     have hk3 : (k : Int) < (m : Int) := by omega
     have hwp : IntKind.i64.wrap ((p : Int) + 1) = (p : Int) + 1 := IntWalk.i64_in _ (by omega);clear hcr hTA hTO hP hpl hcp ht ho hot htm hwf hvn hvk;have hbr' : br < wr.heap.size := hbr;go_upto_region 16 with (fail)
     have O5 : Only [] wr (wr.alloc (.cells #[.int .i64 (i : Int), .int .i64 (k : Int)] 56)) := (Only.refl [] wr).alloc _;have HP5 := Hd (Blk.made wr 56 #[.int .i64 (i : Int), .int .i64 (k : Int)]);have HOR5 := Hd O5;have HB5 := Hd ((hO.out.trans O5).blk HB3.out (by simp));have HTC5 := Hd ((O5.cell (p := ⟨bt, off + i * 3 + 2, none⟩) hbt (by simp)).trans HTC.out);have HPO5 := Hd (HPO.out.only O5 hbo (by simp));have hbt5 : bt < (wr.alloc (.cells #[.int .i64 (i : Int), .int .i64 (k : Int)] 56)).heap.size := by simp; omega
     have hbo5 : bo < (wr.alloc (.cells #[.int .i64 (i : Int), .int .i64 (k : Int)] 56)).heap.size := by simp; omega
     clear O5 e0 e1 HTC HPO hbr hbr' hbt hbo;generalize (wr.alloc (.cells #[.int .i64 (i : Int), .int .i64 (k : Int)] 56)) = w5 at *;generalize wr.heap.size = gp at *;have RD0 := Hd fun wq (hSw : Only [] w5 wq) => aI (Bk3 (hSw.blk HB5.out (by simp))) (aI (Bk2 (hSw.blk HP5.out (by simp))) (aI ((hSw.cell (p := ⟨bt, off + i * 3 + 2, none⟩) hbt5 (by simp)).trans HTC5.out) (aI ((HPO5.out.only hSw hbo5 (by simp)).c0) (aI ((HPO5.out.only hSw hbo5 (by simp)).c1) (aI ((HPO5.out.only hSw hbo5 (by simp)).c2) ((HPO5.out.only hSw hbo5 (by simp)).c3))))));refine rg1 [] [] w5 ?_;have OW : Only [] w5 w5.drew := (Only.refl [] w5).drew;have HGV6 : w5.heap.size ≤ w5.drew.heap.size := OW.size;generalize hwz : w5.drew = wz at *;clear hwz;refine tQ 0 (h := ?_);refine trd (i := 1) (v := ?_) 0 ?_ ?_;rotate_left
     ·(intro wq q; obtain ⟨⟨lb_H, y0, y1, y2⟩, ⟨lb_P, p0, p1⟩, t2, r0, r1, r2, r3⟩ := RD0.out wq q; simp at y0 y1 y2; simp at p0 p1; dsimp only at r0 r1 r2 r3; clear q; go_simp; try with_reducible rfl)
     (try simp only [tdz]);refine tQ 2 (h := ?_);refine trd (i := 3) (v := ?_) 0 ?_ ?_;rotate_left
     ·(intro wq q; obtain ⟨⟨lb_H, y0, y1, y2⟩, ⟨lb_P, p0, p1⟩, t2, r0, r1, r2, r3⟩ := RD0.out wq q; simp at y0 y1 y2; simp at p0 p1; dsimp only at r0 r1 r2 r3; clear q; go_simp; try with_reducible rfl)
     (try simp only [tdz]);refine tQ 4 (h := tQ 5 (h := ?_));refine trd (i := 6) (v := ?_) 0 ?_ ?_;rotate_left
     ·(intro wq q; obtain ⟨⟨lb_H, y0, y1, y2⟩, ⟨lb_P, p0, p1⟩, t2, r0, r1, r2, r3⟩ := RD0.out wq q; simp at y0 y1 y2; simp at p0 p1; dsimp only at r0 r1 r2 r3; clear q; go_simp; try with_reducible rfl)
     (try simp only [tdz]);refine tQ 7 (h := ?_);refine trd (i := 8) (v := ?_) 0 ?_ ?_;rotate_left
     ·(intro wq q; obtain ⟨⟨lb_H, y0, y1, y2⟩, ⟨lb_P, p0, p1⟩, t2, r0, r1, r2, r3⟩ := RD0.out wq q; simp at y0 y1 y2; simp at p0 p1; dsimp only at r0 r1 r2 r3; clear q; go_simp; try with_reducible rfl)
     (try simp only [tdz]);refine tQ 9 (h := ?_);refine trd (i := 10) (v := ?_) 0 ?_ ?_;rotate_left
     ·(intro wq q; obtain ⟨⟨lb_H, y0, y1, y2⟩, ⟨lb_P, p0, p1⟩, t2, r0, r1, r2, r3⟩ := RD0.out wq q; simp at y0 y1 y2; simp at p0 p1; dsimp only at r0 r1 r2 r3; clear q; go_simp; try with_reducible rfl)
     (try simp only [tdz]);refine tst (i := 11) fun K hK => ?_;go_simp;have BL8 := Blk.made wz 70 #[.bool false, .int .i64 0, .int .i64 0, .int .i64 0];have OW1 := OW.alloc (.cells #[.bool false, .int .i64 0, .int .i64 0, .int .i64 0] 70);generalize wz.alloc (.cells #[.bool false, .int .i64 0, .int .i64 0, .int .i64 0] 70) = w8 at *;generalize wz.heap.size = g6 at *;refine kOut hK (OW1) (h := ?_);clear hK K;refine tst (i := 12) fun K hK => ?_;refine wp_store_blk 70 (.tmp 12) (.tmp 69) rfl g6 70 _ #[.bool ow, .int .i64 ok, .int .i64 ov, .int .i64 on] rfl rfl BL8 rfl (by kernel_rfl) (by kernel_rfl) ?_;intro w6 b9 o9;have HG6 := Hd b9;have OW6 := OW1.step o9 (fun i hi hl => by simp at hi; omega);clear o9 b9;refine kOut hK (OW6) (h := ?_);clear hK K;refine tdn ?_;have HW6 := Hd OW6;clear OW OW1 BL8 OW6;have HOR6 := Hd (HOR5.out.trans HW6.out);have HO6 := Hd (hO.out.trans HOR6.out);have HP6 := Hd (HW6.out.blk HP5.out (by simp));have HQ6 := Hd (groups_only HG3.out HO6.out (by simp) (by simp));clear HOR5 HB5 HP5 HTC5 HPO5 hbt5 hbo5 HW6;have lR := HG6.out.lt;have r1 := HG6.out.at_ 1;have r2 := HG6.out.at_ 2;have r3 := HG6.out.at_ 3;simp at r1 r2 r3;go_upto_region 18 with (refine wpList_lookup_groups _ rfl (.tmp 70) (.tmp 75) 65 rfl 72 26 3 .i64 law_what Tryz.underlying65 (zero_rowi _) w2.heap.size b (q * 20) D rfl HQ6.out (by unfold maxLen; omega) (agW (ok, (ov, on))) (kW3 (ok, (ov, on))) rfl HKW.out ?_; intro v zs hat hoi hzl hback; obtain ⟨AV, cV, rfl, -, -, -, -⟩ := own_row hoi.1; have HZS := Hd ((ItIs.owns hoi).same (by have h9 := HVW.out; rw [hat] at h9; exact h9)); have HOI := Hd hoi.1; have hzq := hzl; obtain ⟨nz, hnz⟩ : ∃ nz, zs.length = nz := ⟨_, rfl⟩; rw [hnz] at HOI hzq ⊢; have HNZ := Hd hnz; clear hat hoi hzl hback hnz)
     have hwn : IntKind.i64.wrap ((nz : Int) + 1) = (nz : Int) + 1 := IntWalk.i64_in _ (by omega);have hmk := make_cap nz (by omega);have HL7 := Hd (own_cap nz (by omega) w6);have HO7 := Hd ((Only.refl [] w6).alloc (.cells (capC nz) 3));have HR7 := Hd (HO7.out.blk HG6.out (by simp));have hs6 : w3.heap.size ≤ w6.heap.size := HO6.out.size;go_upto_region 19 with (fail)
     clear hmk lR r1 r2 r3;generalize (w6.alloc (.cells (capC nz) 3)) = w7 at *;have lR := HR7.out.lt;have r2 := HR7.out.at_ 2;simp at r2;go_upto_if 84 with (fail)
     go_cut [14] (fun v wx => Hid (wx.ownsRow w6.heap.size 3 1 v (nilW ov).length ((nilW ov).map (Value.int .i64))) ∧ Hid (Only [] w6 wx))
     case first =>
      by_cases hv : ov = 0
      ·have d1 : (ov == 0) = true := by simp [hv]
       have HW : Hid (nilW ov = [-1]) := Hd (by unfold nilW; rw [if_pos hv]);clear hv;go_wp2_with (at_builtin; refine wpList_append_row _ rfl (.tmp 85) (.tmp 86) _ rfl w6.heap.size 3 i0 _ 1 8 Tryz.underlying26 hi hz0 hz1 hz2 rfl (by omega) (.slice (some ⟨w6.heap.size, 0, none⟩) 0 (nz + 1)) 0 [] rfl (own_only HL7.out ((Only.refl [] _).alloc _) (by simp)) (w7.heap.size + 1) (some ⟨w7.heap.size, 0, none⟩) 1 1 [.int .i64 (-1)] rfl rfl (row_lit w7 3 #[.int .i64 (-1)]) (by simp [Value.oneCell']) (by unfold maxLen; omega) (by omega) (by have := HO7.out.size; simp; omega) ?_; intro v4 w4 hown4 hgrow hat)
       go_meet
       refine ⟨Hd ?_, Hd ((HO7.out.alloc (.cells #[.int .i64 (-1)] 3)).step (only_grown hgrow) (fun x hx hl => by have := (HL7.out.lt x (by simpa using hx)).1; omega))⟩;rw [HW.out]
       simpa using hown4
      ·have d1 : (ov == 0) = false := by simp [hv]
       have HW : Hid (nilW ov = []) := Hd (by unfold nilW; rw [if_neg hv]);clear hv;go_wp2
       go_meet
       exact ⟨Hd (by rw [HW.out]; exact HL7.out), Hd HO7.out⟩
     case rest =>
      obtain ⟨HL, HOC⟩ := hcut;clear HL7 HO7 HR7 lR r2;obtain ⟨w8, hw8⟩ : ∃ w8 : World, w8 = wc := ⟨_, rfl⟩;subst hw8;obtain ⟨wq, hwq⟩ : ∃ wq : World, wq = wr := ⟨_, rfl⟩;subst hwq;have hnil : (nilW ov).length ≤ 1 := by unfold nilW; split <;> simp
      go_wp2_with fail
      go_loopw [14, 90] (fun L iv wr => ∃ m : Nat, iv = .int .i64 (m : Int) ∧ m ≤ nz ∧ Hid (wr.ownsRow w6.heap.size 3 1 L (nilW ov ++ (zs.take m).filter fun z => decide (z ≠ (i : Int))).length ((nilW ov ++ (zs.take m).filter fun z => decide (z ≠ (i : Int))).map (Value.int .i64))) ∧ Hid (Only [] w6 wr)) (fun _ iv _ => nz - (intOf iv).toNat)
      case atStart => exact ⟨0, rfl, by omega, Hd (by simpa using HL.out), HOC⟩
      case round =>
       obtain ⟨m1, rfl, hm1, hL, hOL⟩ := hrel;clear HL HOC;have hs9 := hOL.out.size
       by_cases hlm : m1 < nz
       ·obtain ⟨z, hz⟩ : ∃ z, zs[m1]? = some z := ⟨_, List.getElem?_eq_getElem (by rw [HNZ.out]; exact hlm)⟩;have HFS := Hd (filter_step (fun z => decide (z ≠ (i : Int))) hz);have hfl : (nilW ov ++ (zs.take m1).filter fun z => decide (z ≠ (i : Int))).length ≤ 1 + m1 := by
         rw [List.length_append];have h1 := List.length_filter_le (fun z => decide (z ≠ (i : Int))) (zs.take m1);rw [List.length_take] at h1;omega
        obtain ⟨bv, obv, rfl, -, hbv, hcv⟩ := (own_row_at (own_only HOI.out hOL.out (by simp))).1.open_ (k := m1) (by rw [List.length_map, HNZ.out]; exact hlm);have e0 := hcv m1 _ (by rw [List.getElem?_map, hz]; rfl);have HP9 := Hd (hOL.out.blk HP6.out (by simp));have lP := HP9.out.lt;have p0 := HP9.out.at_ 0;simp at p0;have h02 : (m1 : Int) < (nz : Int) := by omega
        have hm0 : (0 : Int) ≤ (m1 : Int) := Int.natCast_nonneg _;have hwm : IntKind.i64.wrap ((m1 : Int) + 1) = (m1 : Int) + 1 := IntWalk.i64_in _ (by omega);have HL9 : Hid (nilW ov ++ (zs.take (m1 + 1)).filter (fun z => decide (z ≠ (i : Int))) = (nilW ov ++ (zs.take m1).filter fun z => decide (z ≠ (i : Int))) ++ if z ≠ (i : Int) then [z] else []) := Hd (by
         rw [HFS.out, List.append_assoc]
         congr 2
         by_cases c : z = (i : Int) <;> simp [c])
        generalize nilW ov ++ (zs.take m1).filter (fun z => decide (z ≠ (i : Int))) = R at *;clear hcv hz HFS
        by_cases hzi : z = (i : Int)
        ·have d1 : (z != (i : Int)) = false := by simp [hzi]
         have HL8 : Hid (wr.ownsRow w6.heap.size 3 1 u14 (nilW ov ++ (zs.take (m1 + 1)).filter fun z => decide (z ≠ (i : Int))).length ((nilW ov ++ (zs.take (m1 + 1)).filter fun z => decide (z ≠ (i : Int))).map (Value.int .i64))) := Hd (by rw [HL9.out, if_neg (by simp [hzi]), List.append_nil]; exact hL.out);clear hzi hL HL9;go_wp2
         go_roundw
         case rel => exact ⟨m1 + 1, by go_num, by omega, HL8, hOL⟩
         case measure => simp [intOf]; omega
        ·have d1 : (z != (i : Int)) = true := by simp [hzi]
         rw [if_pos hzi] at HL9;clear hzi;go_wp2_with (at_builtin; refine wpList_append_row _ rfl (.tmp 98) (.tmp 100) _ rfl w6.heap.size 3 i0 _ 1 8 Tryz.underlying26 hi hz0 hz1 hz2 rfl (by omega) u14 _ _ rfl (own_only hL.out ((Only.refl [] _).alloc _) (by simp)) (wr.heap.size + 1) (some ⟨wr.heap.size, 0, none⟩) 1 1 [.int .i64 z] rfl rfl (row_lit wr 3 #[.int .i64 z]) (by simp [Value.oneCell']) (by unfold maxLen; omega) (by omega) (by simp; omega) ?_; intro v4 w4 hown4 hgrow hat)
         have HL8 : Hid (w4.ownsRow w6.heap.size 3 1 v4 (nilW ov ++ (zs.take (m1 + 1)).filter fun z => decide (z ≠ (i : Int))).length ((nilW ov ++ (zs.take (m1 + 1)).filter fun z => decide (z ≠ (i : Int))).map (Value.int .i64))) := Hd (by rw [HL9.out]; simpa using hown4);have HO8 := Hd ((hOL.out.alloc (.cells #[.int .i64 z] 3)).step (only_grown hgrow) (fun x hx hl => by have := (hL.out.lt x (by simpa using hx)).1; omega));clear hown4 hgrow hat hL hOL HL9;go_wp2
         go_roundw
         case rel => exact ⟨m1 + 1, by go_num, by omega, HL8, HO8⟩
         case measure => simp [intOf]; omega
       ·obtain rfl : m1 = nz := by omega
        have HR : Hid (nilW ov ++ (zs.take m1).filter (fun z => decide (z ≠ (i : Int))) = choA h.l i ⟨ow, ok, ov, on⟩) := Hd (by rw [List.take_of_length_le (by rw [HNZ.out]; exact Nat.le_refl _), HCA.out, HZS.out]);rw [HR.out] at hL;obtain ⟨R, hR⟩ : ∃ R, choA h.l i ⟨ow, ok, ov, on⟩ = R := ⟨_, rfl⟩;rw [hR] at hL HCP;obtain ⟨AL, cL, rfl, -, -, -, -⟩ := own_row hL.out;have HOW := Hd (HOR6.out.trans hOL.out);have hxl : xs.length = p := by
         have h1 := congrArg List.length hxs.out;rw [List.length_map, List.length_take, HCL.out, Nat.min_eq_left hp] at h1;exact h1
        have HXL := Hd hxl;have hxp : xs.length ≤ 800 := by omega
        have HXN : Hid ((xs ++ [(⟨R, AL, cL⟩ : SlI)]).map (fun x => x.l) = (choL h).take (p + 1)) := Hd (by
         rw [List.take_add_one, HCP.out, List.map_append, hxs.out]
         rfl)
        have hV9 := own_only hV.out HOW.out (by simp);have hX9 := fun x hx => own_only (hX.out x hx) HOW.out (by simp);have hO9 := hO.out.trans HOW.out;have HV9 := Hd hV9;have HX9 := Hd hX9;have HO9 := Hd hO9;have hs99 := hO9.size;clear hV9 hX9 hO9 hxl hV hX hO hR HR;go_wp2_with (at_builtin; refine wpList_append_row _ rfl (.tmp 103) (.tmp 105) _ rfl w3.heap.size 26 i1 _ 1 24 Tryz.underlying31 hi1 hy0 hy1 hy2 rfl (by omega) u9 _ _ rfl (own_only HV9.out ((Only.refl [] _).alloc _) (by simp)) (wr.heap.size + 1) (some ⟨wr.heap.size, 0, none⟩) 1 1 [.slice AL R.length cL] rfl rfl (row_lit wr 26 #[.slice AL R.length cL]) (by simp [Value.oneCell']) (by unfold maxLen; omega) (by omega) (by simp; omega) ?_; intro v4 w4 hown4 hgrow hat)
        have OA : Only [] wr (wr.alloc (.cells #[.slice AL R.length cL] 26)) := (Only.refl [] wr).alloc _;have HVN : Hid (w4.ownsRow w3.heap.size 26 1 v4 (xs ++ [(⟨R, AL, cL⟩ : SlI)]).length ((xs ++ [(⟨R, AL, cL⟩ : SlI)]).map siC)) := Hd (by simpa [siC] using hown4);have HXN2 : Hid (∀ x ∈ xs ++ [(⟨R, AL, cL⟩ : SlI)], w4.ownsRow w3.heap.size 3 1 (siC x) x.l.length (x.l.map (Value.int .i64))) := Hd (fun x hx => by
         have h0 : wr.ownsRow w3.heap.size 3 1 (siC x) x.l.length (x.l.map (Value.int .i64)) := by
          rcases List.mem_append.1 hx with hx | hx
          ·exact HX9.out x hx
          ·obtain rfl := List.mem_singleton.1 hx;exact own_from hL.out hs6
         exact own_only (own_only h0 OA (by simp)) (only_grown hgrow) (own_two (own_only h0 OA (by simp)) (own_only HV9.out OA (by simp)) (by decide)))
        have HON := Hd ((HO9.out.alloc (.cells #[.slice AL R.length cL] 26)).step (only_grown hgrow) (fun x hx hl => by have := (HV9.out.lt x (by simpa using hx)).1; omega));clear hown4 hgrow hat hL hOL HV9 HX9 HO9 OA;go_wp2
        go_roundw
        case rel => exact ⟨p + 1, _, by go_num, by omega, HXN, HVN, HXN2, HON⟩
        case measure => simp [intOf]; omega
    ·obtain rfl : p = np := by omega
     have HE : Hid (xs.map (fun x => x.l) = choL h) := Hd (by rw [hxs.out, List.take_of_length_le (by rw [HCL.out]; exact Nat.le_refl _)]);have HV9 := Hd (own_from hV.out hg3);have HX9 := Hd (fun x hx => own_from (hX.out x hx) hg3);have HO9 := Hd (HO3.out.trans hO.out);subst hgg;clear hV hX hO;go_wp2
     go_ret
     exact ⟨_, xs, ⟨rfl, HV9.out, HE.out, HX9.out⟩, HO9.out⟩
end Go.Proofs.YthdofaoamljkfaaGreatDoor
