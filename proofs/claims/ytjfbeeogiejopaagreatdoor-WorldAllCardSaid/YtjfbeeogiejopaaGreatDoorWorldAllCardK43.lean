/- Parts. -/
import Derived.Test.YtjfbeeogiejopaaGreatDoorWorldAllCardK30
import Derived.Test.YtjfbeeogiejopaaGreatDoorWorldAllCardK29
import Derived.Test.YtjfbeeogiejopaaGreatDoorWorldAllCardK42
import Derived.Test.YtjfbeeogiejopaaGreatDoorWorldAllCardK16
import Derived.Test.YtjfbeeogiejopaaGreatDoorWorldAllCardK41
set_option maxRecDepth 10000
set_option maxHeartbeats 16000000
set_option linter.unusedVariables false
set_option linter.unusedSimpArgs false
namespace Go.Proofs.YtjfbeeogiejopaaGreatDoor
open Go.RowKit
open Go.Lib hiding intOf
attribute [local go_sem ↓] Go.wp_at_zero Go.wp_at_succ
def capN (a : Nat) : Nat := min a 1000000
def trLen (h : Hst) (x : Pl) : Nat := (triesX h true x).length
def waysF (h : Hst) (w : List Nat) (x : Pl) : List Nat := w.set x.1 (capN (w.getD x.1 0 * trLen h x))
def waysQ (h : Hst) (q : Nat) : List Nat := ((lostX h.l).take q).foldl (waysF h) (List.replicate h.l.length 1)
def cntF (ws : List Nat) (n : Nat) (x : Tx × Nat) : Nat := if x.1.f = 1 then capN (n * ws.getD x.2 0) else if x.1.f = 3 then capN (n * (ws.getD x.2 0 + 1)) else n
def cntQ (ws : List Nat) (l : List Tx) (k : Nat) : Nat := (l.zipIdx.take k).foldl (cntF ws) 1
def countW (h : Hst) : Nat := if mayH h = true then cntQ (waysQ h (lostX h.l).length) h.l h.l.length else 0
theorem waysQ_succ {h : Hst} {q : Nat} {x : Pl} (hx : (lostX h.l)[q]? = some x) : waysQ h (q + 1) = (waysQ h q).set x.1 (capN ((waysQ h q).getD x.1 0 * trLen h x)) := by
 unfold waysQ;rw [List.take_add_one, hx, List.foldl_append]
 rfl
theorem waysF_len (h : Hst) (ps : List Pl) : ∀ ws : List Nat, (ps.foldl (waysF h) ws).length = ws.length := by
 induction ps with
 | nil => intro _; rfl
 | cons x ps ih => intro ws; rw [List.foldl_cons, ih]; unfold waysF; rw [List.length_set]
theorem waysQ_len (h : Hst) (q : Nat) : (waysQ h q).length = h.l.length := by unfold waysQ; rw [waysF_len, List.length_replicate]
theorem capN_le (a : Nat) : capN a ≤ 1000000 := Nat.min_le_right _ _
theorem waysF_le (h : Hst) (ps : List Pl) : ∀ ws : List Nat, (∀ a ∈ ws, a ≤ 1000000) → ∀ a ∈ ps.foldl (waysF h) ws, a ≤ 1000000 := by
 induction ps with
 | nil => intro _ hw; exact hw
 | cons x ps ih =>
  intro ws hw;rw [List.foldl_cons];refine ih _ fun a ha => ?_;rcases List.mem_or_eq_of_mem_set ha with h1 | h1
  ·exact hw a h1
  ·rw [h1]; exact capN_le _
theorem waysQ_le (h : Hst) (q : Nat) : ∀ a ∈ waysQ h q, a ≤ 1000000 := waysF_le h _ _ (fun a ha => by rw [(List.mem_replicate.1 ha).2]; omega)
theorem cntQ_succ {ws : List Nat} {l : List Tx} {k : Nat} {t : Tx} (h : l[k]? = some t) : cntQ ws l (k + 1) = cntF ws (cntQ ws l k) (t, k) := by
 unfold cntQ;rw [List.take_add_one, show l.zipIdx[k]? = some (t, k) from by rw [List.getElem?_zipIdx, h]; simp, List.foldl_append]
 rfl
theorem cntF_le (ws : List Nat) (x : Tx × Nat) (n : Nat) (h : n ≤ 1000000) : cntF ws n x ≤ 1000000 := by
 unfold cntF
 split
 ·exact capN_le _
 ·split
  ·exact capN_le _
  ·exact h
theorem cntL_le (ws : List Nat) : ∀ (l : List (Tx × Nat)) (n : Nat), n ≤ 1000000 → l.foldl (cntF ws) n ≤ 1000000
 | [], _, h => h
 | x :: l, n, h => cntL_le ws l _ (cntF_le ws x n h)
theorem cntQ_le (ws : List Nat) (l : List Tx) (k : Nat) : cntQ ws l k ≤ 1000000 := cntL_le ws _ 1 (by omega)
def intsC (l : List Nat) : Array Value := (l.map fun a : Nat => Value.int .i64 (a : Int)).toArray
theorem intsC_at {l : List Nat} {i a : Nat} (h : l[i]? = some a) : (intsC l)[i]? = some (.int .i64 (a : Int)) := by simp [intsC, h]
theorem intsC_set (l : List Nat) (i a : Nat) : (intsC l).setIfInBounds i (.int .i64 (a : Int)) = intsC (l.set i a) := by
 simp [intsC, List.map_set]
theorem made_intsC (n : Nat) : madeCells #[.int .i64 0] n = intsC (List.replicate n 0) := by
 apply Array.ext_getElem?
 intro j
 by_cases hj : j < n <;> simp [madeCells, intsC, Nat.mod_one, hj]
theorem make_intsC (n : Nat) (hn : n ≤ 1000) (w : World) : (Instr.makeSlice 30 (.int .i64 (n : Int)) (.int .i64 (n : Int))).run Tryz.prog w = .ok (.slice (some ⟨w.heap.size, 0, none⟩) n n) (w.alloc (.cells (intsC (List.replicate n 0)) 3)) := by
 obtain ⟨i0, hi, hz0, hz1, hz2⟩ := info_parts info_int;have := run_make (P := Tryz.prog) w 30 3 i0 _ Tryz.underlying30 hi hz0 .i64 .i64 (n : Int) (n : Int) (by omega) (by omega) (by rw [hz2]; omega) (by omega);rw [this, hz1];simp [made_intsC, Value.cells]
theorem ones_set {n k : Nat} (h : k < n) : (List.replicate k 1 ++ List.replicate (n - k) 0).set k 1 = List.replicate (k + 1) 1 ++ List.replicate (n - (k + 1)) 0 := by
 rw [List.set_append_right _ _ (by simp), List.length_replicate, Nat.sub_self, show n - k = (n - (k + 1)) + 1 by omega, List.replicate_succ, List.set_cons_zero, List.replicate_succ', List.append_assoc]
 rfl
theorem wcount_any (A0 A1 A2 : Option Addr) (n0 n1 n2 c0 c1 c2 B : Nat) (h : Hst) (w : World) (hg : HIn w B A0 A1 A2 n0 n1 n2 h) (hI : HInt h) :
  Calls Tryz.prog 35 #[hval A0 A1 A2 n0 n1 n2 c0 c1 c2] w fun e w' => e = .returned (.int .i64 (countW h : Int)) ∧ Only [] w w' := by
 have HMY := Hd (fun w' (O : Only [] w w') => hmay_any A0 A1 A2 n0 n1 n2 c0 c1 c2 B h w' (hg.same O));have HL := Hd hg.at_.r2;have HN2 := Hd hg.n2;have hn2 : n2 ≤ 1000 := by have := hg.sm.nl; rw [hg.n2] at this; exact this
 have HLS := Hd (fun w' (O : Only [] w w') => klost_any A0 A1 A2 n0 n1 n2 c0 c1 c2 B h w' (hg.same O).at_.r2 hg.n2 hn2 hg.sm.no);have HTR := Hd (fun (x : Pl) (t : Tx) w' (O : Only [] w w') (hm : mayH h = true) (hx : h.l[x.1]? = some t) (ho : t.ops[x.2.1]? = some x.2.2) => wtries_any A0 A1 A2 n0 n1 n2 c0 c1 c2 B h x.1 x.2.1 t x.2.2 true w' (hg.same O) hm hI hx ho);rw [lostP_eq] at HLS;rw [List.length_map] at HLS;have hmk := make_intsC n2 hn2;unfold countW;unfold hval at *;clear hg hI;have HO1 := Hd ((Only.refl [] w).alloc (.cells #[.slice A0 n0 c0, .slice A1 n1 c1, .slice A2 n2 c2] 25));have HB1 := Hd (Blk.made w 25 #[.slice A0 n0 c0, .slice A1 n1 c1, .slice A2 n2 c2])
 cases hm : mayH h with
 | false =>
  rw [errH_not hm] at HMY;rw [if_neg (by simp)];clear HLS HTR hmk hm HL;go_enter Tryz.func35, Tryz.ntmps35;go_upto_region 1 with (fail)
  generalize (w.alloc (.cells #[.slice A0 n0 c0, .slice A1 n1 c1, .slice A2 n2 c2] 25)) = w1 at *;generalize hgg : w.heap.size = g at *;have lB := HB1.out.lt;have y0 := HB1.out.at_ 0;have y1 := HB1.out.at_ 1;have y2 := HB1.out.at_ 2;simp at y0 y1 y2;go_wp2_with fail
  refine (HMY.out _ HO1.out).mono ?_;rintro e w2 ⟨rfl, O2⟩;have HO2 := Hd (HO1.out.trans O2);clear O2 HO1 HB1 HMY lB y0 y1 y2;go_wp2
  go_ret
  exact ⟨rfl, HO2.out⟩
 | true =>
  have HTT := Hd (fun x t w' O => HTR.out x t w' O hm);have hn40 : n2 ≤ 40 := by rw [← HN2.out]; exact (may_ops hm).1
  have HLN := Hd (lostX_len (may_ops hm).1 (may_ops hm).2.1);rw [errH_yes hm] at HMY;rw [if_pos rfl];clear HTR hm;go_enter Tryz.func35, Tryz.ntmps35;go_upto_region 1 with (fail)
  generalize (w.alloc (.cells #[.slice A0 n0 c0, .slice A1 n1 c1, .slice A2 n2 c2] 25)) = w1 at *;generalize hgg : w.heap.size = g at *;have lB := HB1.out.lt;have y0 := HB1.out.at_ 0;have y1 := HB1.out.at_ 1;have y2 := HB1.out.at_ 2;simp at y0 y1 y2;go_wp2_with fail
  refine (HMY.out _ HO1.out).mono ?_;rintro e w2 ⟨rfl, O2⟩;have HO2 := Hd ((HO1.out.trans O2).alloc (.cells (intsC (List.replicate n2 0)) 3));have HB2 := Hd ((O2.blk HB1.out (by simp)).alloc (.cells (intsC (List.replicate n2 0)) 3));have HX2 := Hd (Blk.made w2 3 (intsC (List.replicate n2 0)));have hb2 := O2.blk HB1.out (by simp);have lB2 := hb2.lt;have z2 := hb2.at_ 2;simp at z2;have hgx : g < w2.heap.size := lB2;clear O2 HO1 HB1 HMY lB y0 y1 y2 hb2;go_upto_region 4 with (fail)
  clear hmk z2;generalize (w2.alloc (.cells (intsC (List.replicate n2 0)) 3)) = w3 at *;generalize w2.heap.size = gx at *;clear lB2;go_wp2_with fail
  go_loopw [19] (fun iv wr => ∃ k : Nat, iv = .int .i64 (k : Int) ∧ k ≤ n2 ∧ Hid (Blk wr gx 3 (intsC (List.replicate k 1 ++ List.replicate (n2 - k) 0))) ∧ Hid (Blk wr g 25 #[.slice A0 n0 c0, .slice A1 n1 c1, .slice A2 n2 c2]) ∧ Hid (Only [] w wr)) (fun iv _ => n2 - (intOf iv).toNat)
  case atStart => exact ⟨0, rfl, by omega, Hd (by simpa using HX2.out), HB2, HO2⟩
  case round =>
   obtain ⟨k, rfl, hk, hX, hB, hO⟩ := hrel;clear HX2 HB2 HO2
   by_cases hlt : k < n2
   ·have h01 : (k : Int) < (n2 : Int) := by omega
    have hk0 : (0 : Int) ≤ (k : Int) := Int.natCast_nonneg _;have hwk : IntKind.i64.wrap ((k : Int) + 1) = (k : Int) + 1 := IntWalk.i64_in _ (by omega);obtain ⟨z, hz⟩ : ∃ z, (List.replicate k 1 ++ List.replicate (n2 - k) 0)[k]? = some z := ⟨_, List.getElem?_eq_getElem (by simp; omega)⟩;have x0 := (hX.out.at_ k).trans (intsC_at hz);have fx := hX.out.free k;have lX := hX.out.lt;clear hz;have O3 : Only [gx] wr (wr.setCell ⟨gx, k, none⟩ (.int .i64 1)) := (Only.refl [gx] wr).put (fun _ => by simp) _;have HX3 : Hid (Blk (wr.setCell ⟨gx, k, none⟩ (.int .i64 1)) gx 3 (intsC (List.replicate (k + 1) 1 ++ List.replicate (n2 - (k + 1)) 0))) := Hd (by
     rw [← ones_set hlt, ← intsC_set];exact hX.out.put k (.int .i64 1))
    have HB3 := Hd (O3.blk hB.out (by simp; omega));have HO3 := Hd (hO.out.step O3 (fun i hi hl => by simp at hi; omega));clear O3 hX hB hO;go_wp2
    go_roundw
    case rel => exact ⟨k + 1, by go_num, by omega, HX3, HB3, HO3⟩
    case measure => simp [intOf]; omega
   ·have hkn : k = n2 := by omega
    subst hkn;have hd2 : decide ((k : Int) < (k : Int)) = false := by simp
    rw [Nat.sub_self, List.replicate_zero, List.append_nil] at hX;have HX4 : Hid (Blk wr gx 3 (intsC (waysQ h 0))) := Hd (by
     unfold waysQ;rw [List.take_zero, List.foldl_nil, HN2.out];exact hX.out)
    obtain ⟨wo, hwo⟩ : ∃ wo : World, wo = wr := ⟨_, rfl⟩;subst hwo;have lB := hB.out.lt;have y0 := hB.out.at_ 0;have y1 := hB.out.at_ 1;have y2 := hB.out.at_ 2;simp at y0 y1 y2;clear hX;go_wp2_with fail
    refine (HLS.out _ hO.out).mono ?_;rintro e w5 ⟨VL, ⟨rfl, hl5⟩, O5⟩;obtain ⟨AL, cL, rfl, -, -, -, -⟩ := own_row hl5;have HL5 := Hd (own_low hl5 (show g ≤ wo.heap.size by have := hO.out.size; omega));have HX5 := Hd (O5.blk HX4.out (by simp));have HB5 := Hd (O5.blk hB.out (by simp));have HO5 := Hd (hO.out.trans O5);clear O5 hl5 HX4 hB hO HLS lB y0 y1 y2;go_wp2_with fail
    go_loopw [29] (fun iv wr => ∃ q : Nat, iv = .int .i64 (q : Int) ∧ q ≤ (lostX h.l).length ∧ Hid (Blk wr gx 3 (intsC (waysQ h q))) ∧ Hid (Blk wr g 25 #[.slice A0 n0 c0, .slice A1 n1 c1, .slice A2 k c2]) ∧ Hid (wr.ownsRow g 27 2 (.slice AL (lostX h.l).length cL) (lostX h.l).length (placeC ((lostX h.l).map fun x => ((x.1 : Int), (x.2.1 : Int))))) ∧ Hid (Only [] w wr)) (fun iv _ => (lostX h.l).length - (intOf iv).toNat)
    case atStart => exact ⟨0, rfl, by omega, HX5, HB5, HL5, HO5⟩
    case round =>
     obtain ⟨q, rfl, hq, hX, hB, hL, hO⟩ := hrel;clear HX5 HB5 HL5 HO5
     by_cases hlt2 : q < (lostX h.l).length
     ·obtain ⟨x, hx⟩ : ∃ x, (lostX h.l)[q]? = some x := ⟨_, List.getElem?_eq_getElem hlt2⟩;obtain ⟨t, ht, ho, -⟩ := lostX_mem hx;have hi2 : x.1 < k := by rw [← HN2.out]; exact (List.getElem?_eq_some_iff.1 ht).1
      have HT := Hd (fun w' (O : Only [] w w') => HTT.out x t w' O ht ho);have hTL : trLen h x = (triesO h x.1 t x.2.1 x.2.2 true).length := by unfold trLen triesX; rw [ht]
      have hTF := triesO_few (h := h) (by rw [HN2.out]; exact hn40) x.1 t x.2.1 x.2.2 true;have hWS := waysQ_succ hx;obtain ⟨b4, o4, rfl, -, hbr4, hc4⟩ := (own_row_at hL.out).1.open_ (k := q * 2) (by have e := edgeC_len ((lostX h.l).map fun x => ((x.1 : Int), (x.2.1 : Int))); rw [List.length_map] at e; exact Nat.lt_of_lt_of_eq (show q * 2 < (lostX h.l).length * 2 by omega) e.symm);have hpl := placeC_at (l := (lostX h.l).map fun x => ((x.1 : Int), (x.2.1 : Int))) (k := q) (x := ((x.1 : Int), (x.2.1 : Int))) (by rw [List.getElem?_map, hx]; rfl);have p0 := hc4 _ _ hpl.1;have p1 := hc4 _ _ hpl.2;rw [← Nat.add_assoc] at p1;obtain ⟨a, ha⟩ : ∃ a, (waysQ h q)[x.1]? = some a := ⟨_, List.getElem?_eq_getElem (by rw [waysQ_len, HN2.out]; exact hi2)⟩;have hale := waysQ_le h q a (List.mem_of_getElem? ha);have hag : (waysQ h q).getD x.1 0 = a := by rw [List.getD_eq_getElem?_getD, ha]; rfl
      rw [hag, hTL] at hWS;have x0 := (hX.out.at_ x.1).trans (intsC_at ha);have HX0 := Hd x0;have HWS := Hd hWS;obtain ⟨i, j, o⟩ := x;dsimp only at *;generalize triesO h i t j o true = T at *;clear hx ht ho hc4 hpl hTL ha hag hWS x0;have h01 : (q : Int) < ((lostX h.l).length : Int) := by omega
      have hq0 : (0 : Int) ≤ (q : Int) := Int.natCast_nonneg _;have hwq : IntKind.i64.wrap ((q : Int) + 1) = (q : Int) + 1 := IntWalk.i64_in _ (by have := HLN.out; omega);obtain ⟨pr, hpr⟩ : ∃ pr, a * T.length = pr := ⟨_, rfl⟩;have hmul : pr ≤ 1000000 * 1000 := by rw [← hpr]; exact Nat.mul_le_mul hale hTF
      have hwm : IntKind.i64.wrap ((a : Int) * (T.length : Int)) = (pr : Int) := by rw [← Int.natCast_mul, hpr]; exact IntWalk.i64_in _ (by omega)
      have hmin : min (pr : Int) 1000000 = ((capN pr : Nat) : Int) := by unfold capN; omega
      rw [hpr] at HWS;generalize T.length = tn at *;clear hpr hmul;go_upto_region 12 with (fail)
      have O4 : Only [] wr (wr.alloc (.cells #[.int .i64 (i : Int), .int .i64 (j : Int)] 27)) := (Only.refl [] wr).alloc _;have HP4 := Hd (Blk.made wr 27 #[.int .i64 (i : Int), .int .i64 (j : Int)]);have HO4 := Hd (hO.out.trans O4);have HB4 := Hd (O4.blk hB.out (by simp));have HX4 := Hd (O4.blk hX.out (by simp));have HL4 := Hd (own_only hL.out O4 (by simp));have x0 := (HX4.out.at_ i).trans ((hX.out.at_ i).symm.trans HX0.out);have HXI := Hd x0;have hi0 : (0 : Int) ≤ (i : Int) := Int.natCast_nonneg _;have hi3 : (i : Int) < (k : Int) := by omega
      clear O4 hB hX hL hO HX0 hbr4 p0 p1 x0;generalize (wr.alloc (.cells #[.int .i64 (i : Int), .int .i64 (j : Int)] 27)) = w4 at *;generalize wr.heap.size = gp at *;have RD0 := Hd fun wq (hSw : Only [] w4 wq) => And.intro (Bk3 (hSw.blk HB4.out (by simp))) (And.intro (Bk2 (hSw.blk HP4.out (by simp))) (And.intro ((hSw.blk HX4.out (by simp)).lt) ((hSw.cell (p := ⟨gx, i, none⟩) HX4.out.lt (by simp)).trans HXI.out)));refine wp_region_noPanic ?_;refine wp_region_timed (F := [⟨[], [15], fun w' => Only [] w4 w'⟩]) (by kernel_rfl) (th1 ((Only.refl [] w4).drew)) ?_;have OW : Only [] w4 w4.drew := (Only.refl [] w4).drew;generalize w4.drew = wz at *;refine tp (i := 0) ?_;(try simp only [tdz]);refine tp (i := 1) ?_;(try simp only [tdz]);refine trd (i := 2) (v := ?_) 0 ?_ ?_;rotate_left
      ·(intro wq q; obtain ⟨⟨lb_H, y0, y1, y2⟩, ⟨lb_P, p0, p1⟩, lx0, x0⟩ := RD0.out wq q; simp at y0 y1 y2; simp at p0 p1; clear q; go_simp; try with_reducible rfl)
      (try simp only [tdz]);refine tp (i := 3) ?_;(try simp only [tdz]);refine tp (i := 4) ?_;(try simp only [tdz]);refine trd (i := 5) (v := ?_) 0 ?_ ?_;rotate_left
      ·(intro wq q; obtain ⟨⟨lb_H, y0, y1, y2⟩, ⟨lb_P, p0, p1⟩, lx0, x0⟩ := RD0.out wq q; simp at y0 y1 y2; simp at p0 p1; clear q; go_simp; try with_reducible rfl)
      (try simp only [tdz]);refine tp (i := 6) ?_;(try simp only [tdz]);refine trd (i := 7) (v := ?_) 0 ?_ ?_;rotate_left
      ·(intro wq q; obtain ⟨⟨lb_H, y0, y1, y2⟩, ⟨lb_P, p0, p1⟩, lx0, x0⟩ := RD0.out wq q; simp at y0 y1 y2; simp at p0 p1; clear q; go_simp; try with_reducible rfl)
      (try simp only [tdz]);refine trd (i := 8) (v := ?_) 0 ?_ ?_;rotate_left
      ·(intro wq q; obtain ⟨⟨lb_H, y0, y1, y2⟩, ⟨lb_P, p0, p1⟩, lx0, x0⟩ := RD0.out wq q; simp at y0 y1 y2; simp at p0 p1; clear q; go_simp; try with_reducible rfl)
      (try simp only [tdz]);refine trd (i := 9) (v := ?_) 0 ?_ ?_;rotate_left
      ·(intro wq q; obtain ⟨⟨lb_H, y0, y1, y2⟩, ⟨lb_P, p0, p1⟩, lx0, x0⟩ := RD0.out wq q; simp at y0 y1 y2; simp at p0 p1; clear q; go_simp; try with_reducible rfl)
      (try simp only [tdz]);refine tst (i := 10) fun K hK => ?_;go_simp;refine (HT.out _ (HO4.out.trans OW)).mono ?_;rintro e w6 ⟨VT, ⟨rfl, hT6⟩, O6⟩;obtain ⟨AT, cT, rfl, -, -, -, -⟩ := own_row hT6;have OW1 := OW.trans O6;clear O6 hT6;have hx6 := OW1.blk HX4.out (by simp);have x0 := (OW1.cell (p := ⟨gx, i, none⟩) HX4.out.lt (by simp)).trans HXI.out;have fx := hx6.free i;have lX := hx6.lt;refine hK.out _ _ (th1 (OW1)) ?_;clear hK K;(try simp only [tdz]);refine tp (i := 11) ?_;(try simp only [tdz]);refine tp (i := 12) ?_;(try simp only [tdz]);refine tp (i := 13) ?_;(try simp only [tdz]);refine tp (i := 14) ?_;(try simp only [tdz]);refine tst (i := 15) fun K hK => ?_;go_simp;skip;refine hK.out _ _ (timed_over (by kernel_rfl) (timed_nil)) ?_;clear hK K;(try simp only [tdz]);refine timed_done (by kernel_rfl) ?_ _;refine NoPanic.normal ?_;have OS : Only [gx] w6 (w6.setCell ⟨gx, i, none⟩ (.int .i64 ((capN pr : Nat) : Int))) := (Only.refl [gx] w6).put (fun _ => by simp) _;have HX9 : Hid (Blk (w6.setCell ⟨gx, i, none⟩ (.int .i64 ((capN pr : Nat) : Int))) gx 3 (intsC (waysQ h (q + 1)))) := Hd (by
       rw [HWS.out, ← intsC_set];exact hx6.put i _)
      have HB9 := Hd (OS.blk (OW1.blk HB4.out (by simp)) (by simp; omega));have h7 := own_only HL4.out OW1 (by simp);have HL9 := Hd (owb h7 hx6 OS);have HO9 := Hd ((HO4.out.trans OW1).step OS (fun i hi hl => by simp at hi; omega));clear OS h7 HO4 HB4 HX4 HL4 HP4 OW OW1 hx6 x0 fx lX HXI HWS HT;generalize (w6.setCell ⟨gx, i, none⟩ (.int .i64 ((capN pr : Nat) : Int))) = w9 at *;go_wp2
      go_roundw
      case rel => exact ⟨q + 1, by go_num, by omega, HX9, HB9, HL9, HO9⟩
      case measure => simp [intOf]; omega
     ·have hqn : q = (lostX h.l).length := by omega
      subst hqn;have hd3 : decide (((lostX h.l).length : Int) < ((lostX h.l).length : Int)) = false := by simp
      have HWL := Hd (waysQ_len h (lostX h.l).length);have HWE := Hd (waysQ_le h (lostX h.l).length);have HTK : Hid (h.l.length = k) := HN2;rw [HN2.out] at HWL;obtain ⟨ws, hws⟩ : ∃ ws, waysQ h (lostX h.l).length = ws := ⟨_, rfl⟩;rw [hws] at hX HWL HWE;have HWS := Hd hws;clear hws HTT hL;obtain ⟨wq, hwq⟩ : ∃ wq : World, wq = wr := ⟨_, rfl⟩;subst hwq;have lB := hB.out.lt;have y2 := hB.out.at_ 2;simp at y2;go_wp2_with fail
      go_loopw [7, 52] (fun nv iv wr => ∃ p : Nat, nv = .int .i64 ((cntQ ws h.l p : Nat) : Int) ∧ iv = .int .i64 (p : Int) ∧ p ≤ k ∧ Hid (Blk wr gx 3 (intsC ws)) ∧ Hid (Only [] w wr)) (fun _ iv _ => k - (intOf iv).toNat)
      case atStart => exact ⟨0, rfl, rfl, by omega, hX, hO⟩
      case round =>
       obtain ⟨p, rfl, rfl, hp, hX, hO⟩ := hrel;clear lB y2
       by_cases hlt3 : p < k
       ·obtain ⟨t, ht⟩ : ∃ t, h.l[p]? = some t := ⟨_, List.getElem?_eq_getElem (by rw [HN2.out]; exact hlt3)⟩;obtain ⟨a, ha⟩ : ∃ a, ws[p]? = some a := ⟨_, List.getElem?_eq_getElem (by rw [HWL.out]; exact hlt3)⟩;have hale := HWE.out a (List.mem_of_getElem? ha);have hag : ws.getD p 0 = a := by rw [List.getD_eq_getElem?_getD, ha]; rfl
        have hCS := cntQ_succ (ws := ws) ht;unfold cntF at hCS;dsimp only at hCS;rw [hag] at hCS;have hnle := cntQ_le ws h.l p;obtain ⟨bl, off, A', cp, rfl, -, hbw, hT, -⟩ := HL.out.at_ ht;obtain ⟨a0, a1, a2⟩ := hT.only hO.out (by omega) (by simp);have hbr : bl < wr.heap.size := by have := hO.out.size; omega
        have lX := hX.out.lt;have x0 := (hX.out.at_ p).trans (intsC_at ha);have h01 : (p : Int) < (k : Int) := by omega
        have hp0 : (0 : Int) ≤ (p : Int) := Int.natCast_nonneg _;have hwp : IntKind.i64.wrap ((p : Int) + 1) = (p : Int) + 1 := IntWalk.i64_in _ (by omega);obtain ⟨s, f, ops⟩ := t;dsimp only at a0 a1 a2 hCS;generalize ops.length = m at *;generalize cntQ ws h.l p = n at *;obtain ⟨n', hn'⟩ : ∃ n', cntQ ws h.l (p + 1) = n' := ⟨_, rfl⟩;rw [hn'] at hCS;have HN' := Hd hn';have HX := Hd hX.out;have HXR := Hd x0;clear ht ha hag hT hn' hX;go_upto_region 18 with (fail)
        have O2 : Only [] wr (wr.alloc (.cells #[.int .i64 s, .int .i64 f, .slice A' m cp] 46)) := (Only.refl [] wr).alloc _;have HT2 := Hd (Blk.made wr 46 #[.int .i64 s, .int .i64 f, .slice A' m cp]);have HX2 := Hd (O2.blk HX.out (by simp));have HO2 := Hd (hO.out.trans O2);have x0 := (O2.cell (p := ⟨gx, p, none⟩) lX (by simp)).trans x0;have lX2 := HX2.out.lt;clear O2 a0 a1 a2 hO hbr HXR HX lX;generalize (wr.alloc (.cells #[.int .i64 s, .int .i64 f, .slice A' m cp] 46)) = w2 at *;generalize wr.heap.size = gt at *;have lT := HT2.out.lt;have t1 := HT2.out.at_ 1;simp at t1;rcases (show f = 1 ∨ (f ≠ 1 ∧ f = 3) ∨ (f ≠ 1 ∧ f ≠ 3) by omega) with hf | ⟨hf1, hf⟩ | ⟨hf1, hf3⟩
        ·subst hf;rw [if_pos rfl] at hCS;obtain ⟨pr, hpr⟩ : ∃ pr, n * a = pr := ⟨_, rfl⟩;have hmul : pr ≤ 1000000 * 1000001 := by rw [← hpr]; exact Nat.mul_le_mul hnle (by omega)
         have hmulI : (n : Int) * (a : Int) = (pr : Int) := by rw [← hpr]; exact (Int.natCast_mul n a).symm
         have hwm : IntKind.i64.wrap ((n : Int) * (a : Int)) = (pr : Int) := by rw [hmulI]; exact IntWalk.i64_in _ (by omega)
         have hmin : min (pr : Int) 1000000 = ((capN pr : Nat) : Int) := by unfold capN; omega
         rw [hpr] at hCS;subst hCS;clear hpr hmul hmulI;go_wp2
         go_roundw
         case rel => exact ⟨p + 1, by rw [HN'.out], by go_num, by omega, HX2, HO2⟩
         case measure => simp [intOf]; omega
        ·subst hf;rw [if_neg (by decide), if_pos rfl] at hCS;obtain ⟨pr, hpr⟩ : ∃ pr, n * (a + 1) = pr := ⟨_, rfl⟩;have hmul : pr ≤ 1000000 * 1000001 := by rw [← hpr]; exact Nat.mul_le_mul hnle (by omega)
         have hmulI : (n : Int) * ((a : Int) + 1) = (pr : Int) := by rw [← hpr, Int.natCast_mul, Int.natCast_add]; rfl
         have hwa : IntKind.i64.wrap ((a : Int) + 1) = (a : Int) + 1 := IntWalk.i64_in _ (by omega);have hwm : IntKind.i64.wrap ((n : Int) * ((a : Int) + 1)) = (pr : Int) := by rw [hmulI]; exact IntWalk.i64_in _ (by omega)
         have hmin : min (pr : Int) 1000000 = ((capN pr : Nat) : Int) := by unfold capN; omega
         rw [hpr] at hCS;subst hCS;clear hpr hmul hmulI;go_wp2
         go_roundw
         case rel => exact ⟨p + 1, by rw [HN'.out], by go_num, by omega, HX2, HO2⟩
         case measure => simp [intOf]; omega
        ·rw [if_neg hf1, if_neg hf3] at hCS;subst hCS;have hb1 : (f == 1) = false := by simpa using hf1
         have hb3 : (f == 3) = false := by simpa using hf3
         clear hf1 hf3;go_wp2
         go_roundw
         case rel => exact ⟨p + 1, by rw [HN'.out], by go_num, by omega, HX2, HO2⟩
         case measure => simp [intOf]; omega
       ·have hpk : p = k := by omega
        subst hpk;have hd4 : decide ((p : Int) < (p : Int)) = false := by simp
        go_wp2
        go_ret
        exact ⟨by rw [HWS.out, HN2.out]; rfl, hO.out⟩
def infosN (h : Hst) : Nat := (whichL infoB h.l).length
def firstWC (h : Hst) : List Bool := if mayH h = true then List.replicate (infosN h) false else []
def firstWL (h : Hst) : List V2 := if mayH h = true then firstL h (List.replicate (infosN h) false) else []
theorem wfirst_any (A0 A1 A2 : Option Addr) (n0 n1 n2 c0 c1 c2 B : Nat) (h : Hst) (w : World) (hg : HIn w B A0 A1 A2 n0 n1 n2 h) :
  Calls Tryz.prog 31 #[hval A0 A1 A2 n0 n1 n2 c0 c1 c2] w fun e w' => ∃ V V', (e = .returned (.tuple #[.agg #[V, V'], .int .i64 (errH h)]) ∧ w'.ownsRow w.heap.size 4 1 V (firstWC h).length ((firstWC h).map Value.bool) ∧ w'.ownsRow w.heap.size 38 2 V' (firstWL h).length (edgeC (firstWL h))) ∧ Only [] w w' := by
 have HMY := Hd (fun w' (O : Only [] w w') => hmay_any A0 A1 A2 n0 n1 n2 c0 c1 c2 B h w' (hg.same O));have HIN := Hd (fun w' (O : Only [] w w') => kinfos_any A0 A1 A2 n0 n1 n2 c0 c1 c2 B h w' (hg.same O).at_.r2 hg.n2 (by have := hg.sm.nl; rw [hg.n2] at this; exact this));have HFO := Hd (fun (Ac : Option Addr) (nc Bc : Nat) (c : List Bool) w' (O : Only [] w w') (hm : mayH h = true) (hc : Row w' Bc Ac (c.map Value.bool)) (hcl : c.length = nc) (hci : (whichL infoB h.l).length = nc) => wfirstof_any A0 A1 A2 Ac n0 n1 n2 nc c0 c1 c2 nc B Bc h c w' (hg.same O) hm hc hcl hci);have HNI : Hid ((whichL infoB h.l).length ≤ 1000) := Hd (by
  have h1 := which_le infoB h.l;have h2 := hg.sm.nl;omega)
 have HO1 := Hd (((Only.refl [] w).alloc (.cells #[.slice A0 n0 c0, .slice A1 n1 c1, .slice A2 n2 c2] 25)).alloc (.cells #[.slice none 0 0, .slice none 0 0] 51));have HB1 := Hd ((Blk.made w 25 #[.slice A0 n0 c0, .slice A1 n1 c1, .slice A2 n2 c2]).alloc (.cells #[.slice none 0 0, .slice none 0 0] 51));have HR1 := Hd (Blk.made (w.alloc (.cells #[.slice A0 n0 c0, .slice A1 n1 c1, .slice A2 n2 c2] 25)) 51 #[.slice none 0 0, .slice none 0 0]);simp only [World.size_alloc] at HR1;unfold firstWC firstWL infosN;unfold hval at *;clear hg
 cases hm : mayH h with
 | false =>
  rw [errH_not hm] at HMY ⊢;rw [if_neg (by simp), if_neg (by simp)];clear HIN HFO HNI hm;go_enter Tryz.func31, Tryz.ntmps31;go_upto_region 1 with (fail)
  generalize ((w.alloc (.cells #[.slice A0 n0 c0, .slice A1 n1 c1, .slice A2 n2 c2] 25)).alloc (.cells #[.slice none 0 0, .slice none 0 0] 51)) = w1 at *;generalize hgr : w.heap.size + 1 = gr at *;generalize hgg : w.heap.size = g at *;have lB := HB1.out.lt;have y0 := HB1.out.at_ 0;have y1 := HB1.out.at_ 1;have y2 := HB1.out.at_ 2;simp at y0 y1 y2;go_wp2_with fail
  refine (HMY.out _ HO1.out).mono ?_;rintro e w2 ⟨rfl, O2⟩;have HO2 := Hd (HO1.out.trans O2);have HR2 := Hd (O2.blk HR1.out (by simp));clear O2 HO1 HB1 HR1 HMY lB y0 y1 y2;go_wp2_with (refine wpList_store_blk rfl 51 (.tmp 2) (.tmp 9) rfl gr 51 _ #[.slice none 0 0, .slice none 0 0] rfl rfl HR2.out rfl (by kernel_rfl) (by kernel_rfl) ?_; intro w9 b9 o9; have HB9 := Hd b9; have HN9 := Hd o9; clear b9 o9)
  refine bodyPost_ret (results_row2 Tryz.results31 _ _ gr 51 #[.slice none 0 0, .slice none 0 0] _ rfl HB9.out Tryz.underlying51 rfl (by kernel_rfl)) rfl ?_;exact ⟨_, _, ⟨rfl, World.ownsRow_nil _ _ _ _, World.ownsRow_nil _ _ _ _⟩, HO2.out.step HN9.out (fun i hi hl => by simp at hi; omega)⟩
 | true =>
  rw [errH_yes hm] at HMY ⊢;rw [if_pos rfl, if_pos rfl];have HFF := Hd (fun Ac nc Bc c w' O => HFO.out Ac nc Bc c w' O hm);have HFL := Hd (fun c => firstL_len h c);unfold infoB at *;obtain ⟨ni, hni⟩ : ∃ ni, (whichL (fun t : Tx => decide (t.f = 3)) h.l).length = ni := ⟨_, rfl⟩;rw [hni] at HIN HFF HNI ⊢;have hmk := make_bools ni HNI.out;rw [HFL.out];clear HFO hm hni;go_enter Tryz.func31, Tryz.ntmps31;go_upto_region 1 with (fail)
  generalize ((w.alloc (.cells #[.slice A0 n0 c0, .slice A1 n1 c1, .slice A2 n2 c2] 25)).alloc (.cells #[.slice none 0 0, .slice none 0 0] 51)) = w1 at *;generalize hgr : w.heap.size + 1 = gr at *;generalize hgg : w.heap.size = g at *;have lB := HB1.out.lt;have y0 := HB1.out.at_ 0;have y1 := HB1.out.at_ 1;have y2 := HB1.out.at_ 2;simp at y0 y1 y2;go_wp2_with fail
  refine (HMY.out _ HO1.out).mono ?_;rintro e w2 ⟨rfl, O2⟩;have HO2 := Hd (HO1.out.trans O2);have HB2 := Hd (O2.blk HB1.out (by simp));have HR2 := Hd (O2.blk HR1.out (by simp));clear O2 HO1 HB1 HR1 HMY lB y0 y1 y2;go_upto_region 4 with (fail)
  have RD0 := Hd fun wq (hSw : Only [] w2 wq) => Bk3 (hSw.blk HB2.out (by simp));refine wp_region_noPanic ?_;refine wp_region_timed (F := [⟨[], [6], fun w' => Only [] w2 w'⟩]) (by kernel_rfl) (th1 ((Only.refl [] w2).drew)) ?_;have OW : Only [] w2 w2.drew := (Only.refl [] w2).drew;generalize w2.drew = wz at *;refine trd (i := 0) (v := ?_) 0 ?_ ?_;rotate_left
  ·(intro wq q; obtain ⟨lb_H, y0, y1, y2⟩ := RD0.out wq q; simp at y0 y1 y2; clear q; go_simp; try with_reducible rfl)
  (try simp only [tdz]);refine trd (i := 1) (v := ?_) 0 ?_ ?_;rotate_left
  ·(intro wq q; obtain ⟨lb_H, y0, y1, y2⟩ := RD0.out wq q; simp at y0 y1 y2; clear q; go_simp; try with_reducible rfl)
  (try simp only [tdz]);refine tst (i := 2) fun K hK => ?_;go_simp;refine (HIN.out _ (HO2.out.trans OW)).mono ?_;rintro e wa ⟨Ai, ci, ⟨rfl, -⟩, Oa⟩;have OW1 := OW.trans Oa;clear Oa;refine hK.out _ _ (th1 (OW1)) ?_;clear hK K;(try simp only [tdz]);refine tp (i := 3) ?_;(try simp only [tdz]);refine tst (i := 4) fun K hK => ?_;go_simp;have BV := Blk.made wa 4 (boolsC (List.replicate ni false));have hgm : g ≤ wa.heap.size := by have := (HO2.out.trans OW1).size; omega
  have OW2 := OW1.alloc (.cells (boolsC (List.replicate ni false)) 4);generalize wa.alloc (.cells (boolsC (List.replicate ni false)) 4) = wb at *;generalize wa.heap.size = gm at *;refine hK.out _ _ (th1 (OW2)) ?_;clear hK K;(try simp only [tdz]);refine tst (i := 5) fun K hK => ?_;go_simp;refine (HFF.out (some ⟨gm, 0, none⟩) ni _ (List.replicate ni false) _ (HO2.out.trans OW2) (row_bools BV) (by simp) rfl).mono ?_;rintro e wc ⟨V, ⟨rfl, hv⟩, Oc⟩;have OW3 := OW2.trans Oc;have HBV := Hd (Oc.blk BV (by simp));have HV3 := Hd (own_low hv (show g ≤ wb.heap.size by have := (HO2.out.trans OW2).size; omega));obtain ⟨AV, cV, rfl, -, -, -, -⟩ := own_row hv;have hr3 := OW3.blk HR2.out (by simp);clear Oc hv;refine hK.out _ _ (th1 (OW3)) ?_;clear hK K;(try simp only [tdz]);refine tst (i := 6) fun K hK => ?_;refine wp_store_blk 51 (.tmp 2) (.tmp 16) rfl gr 51 _ #[.slice (some ⟨gm, 0, none⟩) ni ni, .slice AV (lostX h.l).length cV] rfl rfl hr3 rfl (by kernel_rfl) (by kernel_rfl) ?_;intro w9 b9 o9;have HB9 := Hd b9;have HN9 := Hd o9;refine hK.out _ _ (timed_over (by kernel_rfl) (timed_nil)) ?_;clear hK K;(try simp only [tdz]);refine tp (i := 7) ?_;(try simp only [tdz]);refine timed_done (by kernel_rfl) ?_ _;refine NoPanic.normal ?_;have HO9 := Hd ((HO2.out.trans OW3).step HN9.out (fun i hi hl => by simp at hi; omega));have hgm2 : gm ≠ gr := HBV.out.apart hr3 (by decide);have HBV9 := HN9.out.blk HBV.out (by simp; omega);have HV9 := Hd (owb HV3.out hr3 HN9.out);have HC9 := Hd (own_bools (n := ni) HBV9 (by simp) HNI.out hgm);clear OW OW1 OW2 OW3 BV hr3 HBV HV3 HN9 HBV9 HFF HIN HO2 HB2 HR2;go_wp2
  refine bodyPost_ret (results_row2 Tryz.results31 _ _ gr 51 #[.slice (some ⟨gm, 0, none⟩) ni ni, .slice AV (lostX h.l).length cV] _ rfl HB9.out Tryz.underlying51 rfl (by kernel_rfl)) rfl ?_;exact ⟨_, _, ⟨rfl, by rw [hgg, List.length_replicate]; exact HC9.out, by rw [hgg]; exact HV9.out⟩, HO9.out⟩
end Go.Proofs.YtjfbeeogiejopaaGreatDoor
