/- Parts. -/
import Derived.Test.YtjfbeeogiejopaaGreatDoorWorldAllCardK28
import Derived.Test.YtjfbeeogiejopaaGreatDoorWorldAllCardK24
import Derived.Test.YtjfbeeogiejopaaGreatDoorWorldAllCardK25
import Derived.Test.YtjfbeeogiejopaaGreatDoorWorldAllCardK27
set_option maxRecDepth 10000
set_option maxHeartbeats 16000000
set_option linter.unusedVariables false
set_option linter.unusedSimpArgs false
namespace Go.Proofs.YtjfbeeogiejopaaGreatDoor
open Go.RowKit
open Go.Lib hiding intOf
attribute [local go_sem ↓] Go.wp_at_zero Go.wp_at_succ
theorem triesO_none {h : Hst} {i : Nat} {t : Tx} {j : Nat} {o : Op4} (hv : leftW o.key (t.ops.take j) = none) : triesO h i t j o true = sortV (valsO (i : Int) o.key h.l) ++ [(1, (freshN h.l o.key : Int))] := by unfold triesO; rw [if_pos rfl, hv]
theorem triesO_some {h : Hst} {i : Nat} {t : Tx} {j : Nat} {o : Op4} {v : V2} (hv : leftW o.key (t.ops.take j) = some v) : triesO h i t j o true = [v, (1, (freshN h.l o.key : Int))] := by unfold triesO; rw [if_pos rfl, hv]
theorem valsO_len (a key : Int) (l : List Tx) : (valsO a key l).length ≤ l.length + 1 := by
 unfold valsO leftL;rw [List.length_cons];have := List.length_filterMap_le (fun x : Tx × Nat => forT a key x.2 x.1) l.zipIdx;rw [List.length_zipIdx] at this;omega
theorem blk_row {w : World} {g : Nat} {t : TypeId} {cs : Array Value} (h : Blk w g t cs) : Row w w.heap.size (some ⟨g, 0, none⟩) cs.toList :=
 .inr ⟨g, 0, rfl, h.lt, Nat.le_refl _, fun j u hu => by
  rw [Nat.zero_add, h.at_ j]
  simpa using hu⟩
theorem own_lit1 (w : World) (v : V2) : (w.alloc (.cells #[.int .i64 v.1, .int .i64 v.2] 38)).ownsRow w.heap.size 38 2 (.slice (some ⟨w.heap.size, 0, none⟩) 1 1) 1 (edgeC [v]) :=
 World.ownsRow_lit w (e := 38) (size := 2) #[.int .i64 v.1, .int .i64 v.2] 1 (Nat.le_refl _) (by unfold maxLen; omega) rfl
theorem own_lit2 (w : World) (v u : V2) : (w.alloc (.cells #[.int .i64 v.1, .int .i64 v.2, .int .i64 u.1, .int .i64 u.2] 38)).ownsRow w.heap.size 38 2 (.slice (some ⟨w.heap.size, 0, none⟩) 2 2) 2 (edgeC [v, u]) :=
 World.ownsRow_lit w (e := 38) (size := 2) #[.int .i64 v.1, .int .i64 v.2, .int .i64 u.1, .int .i64 u.2] 2 (Nat.le_refl _) (by unfold maxLen; omega) rfl
theorem wtries_any (A0 A1 A2 : Option Addr) (n0 n1 n2 c0 c1 c2 B : Nat) (h : Hst) (i j : Nat) (t : Tx) (o : Op4) (b : Bool) (w : World) (hg : HIn w B A0 A1 A2 n0 n1 n2 h) (hm : mayH h = true) (hI : HInt h) (hx : h.l[i]? = some t) (ho : t.ops[j]? = some o) :
  Calls Tryz.prog 71 #[hval A0 A1 A2 n0 n1 n2 c0 c1 c2, .agg #[.int .i64 (i : Int), .int .i64 (j : Int)], .bool b] w fun e w' => ∃ V, (e = .returned V ∧ w'.ownsRow w.heap.size 38 2 V (triesO h i t j o b).length (edgeC (triesO h i t j o b))) ∧ Only [] w w' := by
 obtain ⟨i0, hi, hz0, hz1, hz2⟩ := info_parts info_val;have hn2 : n2 ≤ 40 := by rw [← hg.n2]; exact (may_ops hm).1
 have hno := hg.sm.no t (List.mem_of_getElem? hx);have HKF := Hd (fun w' (O : Only [] w w') => kfresh_any A0 A1 A2 n0 n1 n2 c0 c1 c2 B h o.key w' (hg.same O) hm hI);have HKV := Hd (fun w' (O : Only [] w w') => kvalues_own A0 A1 A2 n0 n1 n2 c0 c1 c2 B h i j t o w' (hg.same O) hm hI hx ho);have HVN : Hid ((sortV (valsO (i : Int) o.key h.l)).length ≤ 41) := Hd (by
  have h1 := sortV_le (valsO (i : Int) o.key h.l);have h2 := valsO_len (i : Int) o.key h.l;have h3 := hg.n2;omega)
 obtain ⟨bl, off, A', cp, rfl, -, hbw, hT, hOk⟩ := hg.at_.r2.at_ hx;have hi2 : i < n2 := by rw [← hg.n2]; exact (List.getElem?_eq_some_iff.1 hx).1
 have hjm := (List.getElem?_eq_some_iff.1 ho).1;obtain ⟨bo, oo, rfl, -, hbo, hP⟩ := row_op hOk.row ho;have hkc := hP.c1;have HKC := Hd hkc;have HKO := Hd (fun w' (O : Only [] w w') => kown_any (some ⟨bo, oo, none⟩) _ cp B j t.ops o w' (hOk.row.only O (by simp)) rfl hno hOk.le hOk.cap ho);have HTC := Hd hT.c2;dsimp only at HTC;have HEN := Hd (fun (hv : leftW o.key (t.ops.take j) = none) => triesO_none (h := h) (i := i) hv);have HES := Hd (fun (v : V2) (hv : leftW o.key (t.ops.take j) = some v) => triesO_some (h := h) (i := i) hv);have HEF : triesO h i t j o false = [(0, 0)] := rfl;generalize t.ops.length = m at *;generalize leftW o.key (t.ops.take j) = v at *;generalize sortV (valsO (i : Int) o.key h.l) = L at *;generalize freshN h.l o.key = fr at *;have hi0 : (0 : Int) ≤ (i : Int) := by omega
 have hj0 : (0 : Int) ≤ (j : Int) := by omega
 have hi2' : (i : Int) < (n2 : Int) := by omega
 have hjm' : (j : Int) < (m : Int) := by omega
 unfold hval at *;clear hg hx ho hOk hT hP hkc;have HO1 := Hd (((Only.refl [] w).alloc (.cells #[.slice A0 n0 c0, .slice A1 n1 c1, .slice (some ⟨bl, off, none⟩) n2 c2] 25)).alloc (.cells #[.int .i64 (i : Int), .int .i64 (j : Int)] 27));have HB1 := Hd ((Blk.made w 25 #[.slice A0 n0 c0, .slice A1 n1 c1, .slice (some ⟨bl, off, none⟩) n2 c2]).alloc (.cells #[.int .i64 (i : Int), .int .i64 (j : Int)] 27));have HP1 := Hd (Blk.made (w.alloc (.cells #[.slice A0 n0 c0, .slice A1 n1 c1, .slice (some ⟨bl, off, none⟩) n2 c2] 25)) 27 #[.int .i64 (i : Int), .int .i64 (j : Int)]);simp only [World.size_alloc] at HP1
 cases b with
 | false =>
  clear HKO HTC HKF HKV HEN HES;rw [HEF];go_enter Tryz.func71, Tryz.ntmps71;go_upto_region 1 with (fail)
  generalize ((w.alloc (.cells #[.slice A0 n0 c0, .slice A1 n1 c1, .slice (some ⟨bl, off, none⟩) n2 c2] 25)).alloc (.cells #[.int .i64 (i : Int), .int .i64 (j : Int)] 27)) = w1 at *;have HOW := Hd (own_lit1 w1 (0, 0));have HO2 := Hd (HO1.out.alloc (.cells #[.int .i64 0, .int .i64 0] 38));go_wp2
  go_ret
  exact ⟨⟨_, rfl, own_low HOW.out HO1.out.size⟩, HO2.out⟩
 | true =>
  clear HEF;generalize triesO h i t j o true = TT at *;generalize o.key = ok at *;go_enter Tryz.func71, Tryz.ntmps71;go_upto_region 1 with (fail)
  generalize ((w.alloc (.cells #[.slice A0 n0 c0, .slice A1 n1 c1, .slice (some ⟨bl, off, none⟩) n2 c2] 25)).alloc (.cells #[.int .i64 (i : Int), .int .i64 (j : Int)] 27)) = w1 at *;generalize hgp : w.heap.size + 1 = gp at *;generalize hgg : w.heap.size = g at *;have hbr : bl < w1.heap.size := by have := HO1.out.size; omega
  have hbor : bo < w1.heap.size := by have := HO1.out.size; omega
  have HTC1 := Hd ((HO1.out.cell (p := ⟨bl, off + i * 3 + 2, none⟩) (by show bl < _; omega) (by simp)).trans HTC.out);have HKC1 := Hd ((HO1.out.cell (p := ⟨bo, oo + j * 4 + 1, none⟩) (by show bo < _; omega) (by simp)).trans HKC.out);have t2 := HTC1.out;have lB := HB1.out.lt;have y2 := HB1.out.at_ 2;have lP := HP1.out.lt;have p0 := HP1.out.at_ 0;simp at y2 p0;go_upto_region 4 with (fail)
  clear t2 lB y2 lP p0 HTC HKC HTC1;have RD0 := Hd fun wq (hSw : Only [] w1 wq) => And.intro (Bk3 (hSw.blk HB1.out (by simp))) (And.intro (Bk2 (hSw.blk HP1.out (by simp))) ((hSw.cell (p := ⟨bo, oo + j * 4 + 1, none⟩) hbor (by simp)).trans HKC1.out));refine wp_region_noPanic ?_;refine wp_region_timed (F := [⟨[], [], fun w' => Only [] w1 w'⟩]) (by kernel_rfl) (th1 ((Only.refl [] w1).drew)) ?_;have OW : Only [] w1 w1.drew := (Only.refl [] w1).drew;generalize hwz : w1.drew = wz at *;clear hwz;refine trd (i := 0) (v := ?_) 0 ?_ ?_;rotate_left
  ·(intro wq q; obtain ⟨⟨lb_H, y0, y1, y2⟩, ⟨lb_P, p0, p1⟩, k1⟩ := RD0.out wq q; simp at y0 y1 y2; simp at p0 p1; clear q; go_simp; try with_reducible rfl)
  (try simp only [tdz]);refine tp (i := 1) ?_;(try simp only [tdz]);refine tp (i := 2) ?_;(try simp only [tdz]);refine trd (i := 3) (v := ?_) 0 ?_ ?_;rotate_left
  ·(intro wq q; obtain ⟨⟨lb_H, y0, y1, y2⟩, ⟨lb_P, p0, p1⟩, k1⟩ := RD0.out wq q; simp at y0 y1 y2; simp at p0 p1; clear q; go_simp; try with_reducible rfl)
  (try simp only [tdz]);refine tp (i := 4) ?_;(try simp only [tdz]);refine tp (i := 5) ?_;(try simp only [tdz]);refine trd (i := 6) (v := ?_) 0 ?_ ?_;rotate_left
  ·(intro wq q; obtain ⟨⟨lb_H, y0, y1, y2⟩, ⟨lb_P, p0, p1⟩, k1⟩ := RD0.out wq q; simp at y0 y1 y2; simp at p0 p1; clear q; go_simp; try with_reducible rfl)
  try simp only [tdz]
  apply cut_1_0 (fun w gv => (Only [] w1 w) ∧ (True) ∧ (Blk w gv 38 #[.int .i64 0, .int .i64 0]) ∧ (w1.heap.size ≤ gv))
  intro HST7_8
  apply cut_1_0 (fun w gv => (Only [] w1 w) ∧ (True) ∧ (Blk w gv 38 #[.int .i64 0, .int .i64 0]) ∧ (w1.heap.size ≤ gv))
  intro HST8
  apply cut_0_0 (fun w  => (Only [] w1 w) ∧ (True))
  intro HST7
  ·skip;refine timed_forks (l := [7, 8]) (by kernel_rfl) (by simp) (fork_cons ⟨_, rfl, fun K hK => ?_⟩ (fork_cons ⟨_, rfl, fun K hK => ?_⟩ (fork_nil)))
   ·go_simp;refine (HKF.out _ (HO1.out.trans OW)).mono ?_;rintro e w3 ⟨rfl, O3⟩;have OW1 := OW.trans O3;have OS := O3;refine hK.out _ _ (th1 (OW1)) ?_;clear hK K;(try simp only [tdz]);exact HST7 w3  ⟨OW1, trivial⟩
   ·go_simp;have OW1 := OW.alloc (.cells #[.int .i64 0, .int .i64 0] 38);have OS : Only [] wz (wz.alloc (.cells #[.int .i64 0, .int .i64 0] 38)) := (Only.refl [] wz).alloc (.cells #[.int .i64 0, .int .i64 0] 38);have BV := Blk.made wz 38 #[.int .i64 0, .int .i64 0];have HGV : w1.heap.size ≤ wz.heap.size := OW.size;generalize wz.alloc (.cells #[.int .i64 0, .int .i64 0] 38) = w1 at *;generalize wz.heap.size = gv at *;refine hK.out _ _ (th1 (OW1)) ?_;clear hK K;(try simp only [tdz]);exact HST8 w1 gv ⟨OW1, trivial, BV, HGV⟩
  ·skip;intro wz  ⟨OW, HTT⟩;refine tst (i := 8) fun K hK => ?_;go_simp;have OW1 := OW.alloc (.cells #[.int .i64 0, .int .i64 0] 38);have OS : Only [] wz (wz.alloc (.cells #[.int .i64 0, .int .i64 0] 38)) := (Only.refl [] wz).alloc (.cells #[.int .i64 0, .int .i64 0] 38);have BV := Blk.made wz 38 #[.int .i64 0, .int .i64 0];have HGV : w1.heap.size ≤ wz.heap.size := OW.size;generalize wz.alloc (.cells #[.int .i64 0, .int .i64 0] 38) = w1 at *;generalize wz.heap.size = gv at *;refine hK.out _ _ (th1 (OW1)) ?_;clear hK K;(try simp only [tdz]);exact HST7_8 w1 gv ⟨OW1, trivial, BV, HGV⟩
  ·skip;intro wz gv ⟨OW, HTT, BV, HGV⟩;refine tst (i := 7) fun K hK => ?_;go_simp;refine (HKF.out _ (HO1.out.trans OW)).mono ?_;rintro e w3 ⟨rfl, O3⟩;have OW1 := OW.trans O3;have OS := O3;have BV1 := OS.blk BV (by simp);refine hK.out _ _ (th1 (OW1)) ?_;clear hK K;(try simp only [tdz]);exact HST7_8 w3 gv ⟨OW1, trivial, BV1, HGV⟩
  -- behind all of the crowd
  intro wz gv ⟨OW, HTT, BV, HGV⟩;refine tst (i := 9) fun K hK => ?_;refine wp_store_blk 38 (.tmp 8) (.tmp 29) rfl gv 38 _ #[.int .i64 1, .int .i64 (fr : Int)] rfl rfl BV rfl (by kernel_rfl) (by kernel_rfl) ?_;intro w9 b9 o9;have HV9b := Hd b9;have OW9 := OW.step o9 (fun i hi hl => by simp at hi; omega);clear o9 b9;refine hK.out _ _ (th1 (OW9)) ?_;clear hK K;(try simp only [tdz]);refine timed_done (by kernel_rfl) ?_ _;refine NoPanic.normal ?_;have HW9 := Hd OW9;have HO9 := Hd (HO1.out.trans HW9.out);have HB9 := Hd (HW9.out.blk HB1.out (by simp));have HP9 := Hd (HW9.out.blk HP1.out (by simp));have HF9 := HV9b;clear HB1 HP1 HKC1 HO1 HW9 HKF HV9b hbr hbor;generalize gv = gf at *;generalize w9 = wA at *;have lP := HP9.out.lt;have p1 := HP9.out.at_ 1;simp at p1;go_wp2_with fail
  refine (HKO.out _ HO9.out).mono ?_;rintro e w3 ⟨rfl, O3⟩;unfold optT optV;go_upto_region 6 with (fail)
  have HOB := Hd ((HO9.out.trans O3).alloc (.cells #[.int .i64 (v.getD (0, 0)).1, .int .i64 (v.getD (0, 0)).2] 38));have HBB := Hd ((O3.blk HB9.out (by simp)).alloc (.cells #[.int .i64 (v.getD (0, 0)).1, .int .i64 (v.getD (0, 0)).2] 38));have HPB := Hd ((O3.blk HP9.out (by simp)).alloc (.cells #[.int .i64 (v.getD (0, 0)).1, .int .i64 (v.getD (0, 0)).2] 38));have HFB := Hd ((O3.blk HF9.out (by simp)).alloc (.cells #[.int .i64 (v.getD (0, 0)).1, .int .i64 (v.getD (0, 0)).2] 38));have HVB := Hd (Blk.made w3 38 #[.int .i64 (v.getD (0, 0)).1, .int .i64 (v.getD (0, 0)).2]);clear O3 HO9 HB9 HP9 HF9 HKO lP p1;generalize w3.alloc (.cells #[.int .i64 (v.getD (0, 0)).1, .int .i64 (v.getD (0, 0)).2] 38) = wB at *;generalize w3.heap.size = gw at *
  cases v with
  | some v =>
   have HE := Hd (HES.out v rfl);have lV := HVB.out.lt;have u0 := HVB.out.at_ 0;have u1 := HVB.out.at_ 1;have lF := HFB.out.lt;have f0 := HFB.out.at_ 0;have f1 := HFB.out.at_ 1;obtain ⟨v1, v2⟩ := v;simp at u0 u1 f0 f1;have HOW := Hd (own_lit2 wB (v1, v2) (1, (fr : Int)));have HO2 := Hd (HOB.out.alloc (.cells #[.int .i64 v1, .int .i64 v2, .int .i64 1, .int .i64 (fr : Int)] 38));go_wp2
   go_ret
   exact ⟨⟨_, rfl, by rw [HE.out]; exact own_low HOW.out (by have := HOB.out.size; omega)⟩, HO2.out⟩
  | none =>
   have HE := Hd (HEN.out rfl);clear HEN HES HVB;go_upto_region 8 with (fail)
   have RD0 := Hd fun wq (hSw : Only [] wB wq) => And.intro (Bk3 (hSw.blk HBB.out (by simp))) (And.intro (Bk2 (hSw.blk HPB.out (by simp))) (Bk2 (hSw.blk HFB.out (by simp))));refine wp_region_noPanic ?_;refine wp_region_timed (F := [⟨[], [], fun w' => Only [] wB w'⟩]) (by kernel_rfl) (th1 ((Only.refl [] wB).drew)) ?_;have OW : Only [] wB wB.drew := (Only.refl [] wB).drew;generalize hwz : wB.drew = wz at *;clear hwz;refine trd (i := 0) (v := ?_) 0 ?_ ?_;rotate_left
   ·(intro wq q; obtain ⟨⟨lb_H, y0, y1, y2⟩, ⟨lb_P, p0, p1⟩, ⟨lb_F, f0, f1⟩⟩ := RD0.out wq q; simp at y0 y1 y2; simp at p0 p1; simp at f0 f1; clear q; go_simp; try with_reducible rfl)
   (try simp only [tdz]);refine trd (i := 1) (v := ?_) 0 ?_ ?_;rotate_left
   ·(intro wq q; obtain ⟨⟨lb_H, y0, y1, y2⟩, ⟨lb_P, p0, p1⟩, ⟨lb_F, f0, f1⟩⟩ := RD0.out wq q; simp at y0 y1 y2; simp at p0 p1; simp at f0 f1; clear q; go_simp; try with_reducible rfl)
   (try simp only [tdz]);refine trd (i := 3) (v := ?_) 0 ?_ ?_;rotate_left
   ·(intro wq q; obtain ⟨⟨lb_H, y0, y1, y2⟩, ⟨lb_P, p0, p1⟩, ⟨lb_F, f0, f1⟩⟩ := RD0.out wq q; simp at y0 y1 y2; simp at p0 p1; simp at f0 f1; clear q; go_simp; try with_reducible rfl)
   try simp only [tdz]
   apply cut_1_1 (fun w gv VV => (Only [] wB w) ∧ (True) ∧ (Blk w gv 38 #[.int .i64 1, .int .i64 (fr : Int)]) ∧ (wB.heap.size ≤ gv) ∧ (w.ownsRow wB.heap.size 38 2 VV L.length (edgeC L)))
   intro HST2_4
   apply cut_1_0 (fun w gv => (Only [] wB w) ∧ (True) ∧ (Blk w gv 38 #[.int .i64 1, .int .i64 (fr : Int)]) ∧ (wB.heap.size ≤ gv))
   intro HST4
   apply cut_0_1 (fun w VV => (Only [] wB w) ∧ (True) ∧ (w.ownsRow wB.heap.size 38 2 VV L.length (edgeC L)))
   intro HST2
   ·skip;refine timed_forks (l := [2, 4]) (by kernel_rfl) (by simp) (fork_cons ⟨_, rfl, fun K hK => ?_⟩ (fork_cons ⟨_, rfl, fun K hK => ?_⟩ (fork_nil)))
    ·go_simp;refine (HKV.out _ (HOB.out.trans OW)).mono ?_;rintro e w3 ⟨VV, ⟨rfl, ho3⟩, O3⟩;have OV := own_low ho3 OW.size;have OW1 := OW.trans O3;have OS := O3;refine hK.out _ _ (th1 (OW1)) ?_;clear hK K;(try simp only [tdz]);exact HST2 w3 VV ⟨OW1, trivial, OV⟩
    ·go_simp;have OW1 := OW.alloc (.cells #[.int .i64 1, .int .i64 (fr : Int)] 38);have OS : Only [] wz (wz.alloc (.cells #[.int .i64 1, .int .i64 (fr : Int)] 38)) := (Only.refl [] wz).alloc (.cells #[.int .i64 1, .int .i64 (fr : Int)] 38);have BV := Blk.made wz 38 #[.int .i64 1, .int .i64 (fr : Int)];have HGV : wB.heap.size ≤ wz.heap.size := OW.size;generalize wz.alloc (.cells #[.int .i64 1, .int .i64 (fr : Int)] 38) = w1 at *;generalize wz.heap.size = gv at *;refine hK.out _ _ (th1 (OW1)) ?_;clear hK K;(try simp only [tdz]);exact HST4 w1 gv ⟨OW1, trivial, BV, HGV⟩
   ·skip;intro wz VV ⟨OW, HTT, OV⟩;refine tst (i := 4) fun K hK => ?_;go_simp;have OW1 := OW.alloc (.cells #[.int .i64 1, .int .i64 (fr : Int)] 38);have OS : Only [] wz (wz.alloc (.cells #[.int .i64 1, .int .i64 (fr : Int)] 38)) := (Only.refl [] wz).alloc (.cells #[.int .i64 1, .int .i64 (fr : Int)] 38);have BV := Blk.made wz 38 #[.int .i64 1, .int .i64 (fr : Int)];have HGV : wB.heap.size ≤ wz.heap.size := OW.size;have OV1 := own_only OV OS (by simp);generalize wz.alloc (.cells #[.int .i64 1, .int .i64 (fr : Int)] 38) = w1 at *;generalize wz.heap.size = gv at *;refine hK.out _ _ (th1 (OW1)) ?_;clear hK K;(try simp only [tdz]);exact HST2_4 w1 gv VV ⟨OW1, trivial, BV, HGV, OV1⟩
   ·skip;intro wz gv ⟨OW, HTT, BV, HGV⟩;refine tst (i := 2) fun K hK => ?_;go_simp;refine (HKV.out _ (HOB.out.trans OW)).mono ?_;rintro e w3 ⟨VV, ⟨rfl, ho3⟩, O3⟩;have OV := own_low ho3 OW.size;have OW1 := OW.trans O3;have OS := O3;have BV1 := OS.blk BV (by simp);refine hK.out _ _ (th1 (OW1)) ?_;clear hK K;(try simp only [tdz]);exact HST2_4 w3 gv VV ⟨OW1, trivial, BV1, HGV, OV⟩
   -- behind all of the crowd
   intro wz gv VV ⟨OW, HTT, BV, HGV, OV⟩;refine tst (i := 5) fun K hK => ?_;refine step_append_row _ rfl (.tmp 43) (.tmp 45) 33 rfl wB.heap.size 38 i0 _ 2 16 Tryz.underlying33 hi hz0 hz1 hz2 rfl (by omega) VV L.length (edgeC L) (by rfl) OV _ (some ⟨gv, 0, none⟩) 1 1 [.int .i64 1, .int .i64 (fr : Int)] (by rfl) (by rfl) (blk_row BV) (by intro u hu; simp at hu; rcases hu with rfl | rfl <;> rfl) (by have := HVN.out; unfold maxLen; omega) (by have := HVN.out; omega) OW.size ?_;intro V9 w9 hown9 hgrow9 hat9;have OW9 := OW.step (only_grown hgrow9) (own_new OV);have HV9 := Hd hown9;clear hown9 hgrow9 hat9;refine hK.out _ _ (th1 (OW9)) ?_;clear hK K;(try simp only [tdz]);refine tp (i := 6) ?_;(try simp only [tdz]);refine timed_done (by kernel_rfl) ?_ _;refine NoPanic.normal ?_;have HWC := Hd OW9;have HO9 := Hd (HOB.out.trans HWC.out);go_wp2
   go_ret
   exact ⟨_, ⟨rfl, by rw [HE.out, List.length_append, edgeC_append]; exact own_low HV9.out (by have := HOB.out.size; omega)⟩, HO9.out⟩
structure SlA where
 l : List V2
 A : Option Addr
 cp : Nat
def slC (x : SlA) : Value := .slice x.A x.l.length x.cp
def VVown (w : World) (B : Nat) (xs : List SlA) : Prop := ∀ x ∈ xs, w.ownsRow B 38 2 (slC x) x.l.length (edgeC x.l)
theorem VVown.only {w w' : World} {B : Nat} {xs : List SlA} {S : List Nat} (h : VVown w B xs) (ho : Only S w w') (hS : ∀ x ∈ xs, ∀ g, (slC x).ownBlock = some g → g ∉ S) : VVown w' B xs :=
 fun x hx => own_only (h x hx) ho (hS x hx)
theorem VVown.same {w w' : World} {B : Nat} {xs : List SlA} (h : VVown w B xs) (ho : Only [] w w') : VVown w' B xs := h.only ho (fun _ _ _ _ => by simp)
theorem info_vsl : (Tryz.prog.info? 33).map (fun i => (i.zero, i.size, i.bytes)) = some (some (.slice none 0 0), 1, 24) := by kernel_rfl
theorem allT_get {h : Hst} {c : List Bool} {k : Nat} {x : Pl} (hx : (lostX h.l)[k]? = some x) : (allT h c)[k]? = some (triesX h (atB (comL h.l c) x.1) x) := by
 unfold allT;rw [List.getElem?_map, hx]
 rfl
theorem lostX_mem {l : List Tx} {k : Nat} {x : Pl} (hx : (lostX l)[k]? = some x) : ∃ t, l[x.1]? = some t ∧ t.ops[x.2.1]? = some x.2.2 ∧ x.2.2.vk = 2 := by
 have hm := List.mem_filter.1 (List.mem_of_getElem? hx);obtain ⟨t, h1, h2⟩ := pls_mem hm.1;exact ⟨t, h1, h2, by simpa using hm.2⟩
theorem lostX_len {l : List Tx} (h : l.length ≤ 40) (ho : ∀ t ∈ l, t.ops.length ≤ 20) : (lostX l).length ≤ 40000 := by
 unfold lostX;have h1 := List.length_filter_le (fun x : Pl => decide (x.2.2.vk = 2)) (plsL l);have h2 := plsL_len l (fun t ht => Nat.le_trans (ho t ht) (by omega));have h3 : l.length * 1000 ≤ 40 * 1000 := Nat.mul_le_mul_right _ h;omega
theorem placeC_at {l : List (Int × Int)} {k : Nat} {x : Int × Int} (h : l[k]? = some x) : (placeC l)[k * 2]? = some (.int .i64 x.1) ∧ (placeC l)[k * 2 + 1]? = some (.int .i64 x.2) := edgeC_get l k x h
theorem walltries_any (A0 A1 A2 Ac : Option Addr) (n0 n1 n2 nc c0 c1 c2 cc B Bc : Nat) (h : Hst) (c : List Bool) (w : World) (hg : HIn w B A0 A1 A2 n0 n1 n2 h) (hm : mayH h = true) (hI : HInt h) (hc : Row w Bc Ac (c.map Value.bool)) (hcl : c.length = nc) (hci : (whichL infoB h.l).length = nc) :
  Calls Tryz.prog 56 #[hval A0 A1 A2 n0 n1 n2 c0 c1 c2, .slice Ac nc cc] w fun e w' => ∃ V, (∃ xs : List SlA, e = .returned V ∧ xs.map (fun x => x.l) = allT h c ∧ w'.ownsRow w.heap.size 33 1 V (allT h c).length (xs.map slC) ∧ VVown w' w.heap.size xs) ∧ Only [] w w' := by
 obtain ⟨i0, hi, hz0, hz1, hz2⟩ := info_parts info_vsl;have hn2 : n2 ≤ 40 := by rw [← hg.n2]; exact (may_ops hm).1
 have HCM := Hd (fun w' (O : Only [] w w') => wcommitted_any A0 A1 A2 Ac n0 n1 n2 nc c0 c1 c2 cc B Bc h c w' (hg.same O) (hc.only O (by simp)) hcl hci);have HLS := Hd (fun w' (O : Only [] w w') => klost_any A0 A1 A2 n0 n1 n2 c0 c1 c2 B h w' (hg.same O).at_.r2 hg.n2 (by omega) (fun t ht => Nat.le_trans ((may_ops hm).2.1 t ht) (by omega)));have HTR := Hd (fun (x : Pl) (t : Tx) (b : Bool) w' (hx : h.l[x.1]? = some t) (ho : t.ops[x.2.1]? = some x.2.2) (O : Only [] w w') => wtries_any A0 A1 A2 n0 n1 n2 c0 c1 c2 B h x.1 x.2.1 t x.2.2 b w' (hg.same O) hm hI hx ho);have HLN := Hd (lostX_len (may_ops hm).1 (may_ops hm).2.1);have HN2 := Hd hg.n2;have HAL := Hd (allT_len h c);rw [lostP_eq] at HLS;obtain ⟨nl, hnl⟩ : ∃ nl, (lostX h.l).length = nl := ⟨_, rfl⟩;have HNL := Hd hnl;rw [List.length_map, hnl] at HLS;rw [allT_len, hnl];unfold hval at *;clear hg hm hI hc hnl;have HO1 := Hd ((Only.refl [] w).alloc (.cells #[.slice A0 n0 c0, .slice A1 n1 c1, .slice A2 n2 c2] 25));have HB1 := Hd (Blk.made w 25 #[.slice A0 n0 c0, .slice A1 n1 c1, .slice A2 n2 c2]);go_enter Tryz.func56, Tryz.ntmps56;go_upto_region 1 with (fail)
 generalize (w.alloc (.cells #[.slice A0 n0 c0, .slice A1 n1 c1, .slice A2 n2 c2] 25)) = w1 at *;generalize hgg : w.heap.size = g at *;have lB := HB1.out.lt;have y0 := HB1.out.at_ 0;have y1 := HB1.out.at_ 1;have y2 := HB1.out.at_ 2;simp at y0 y1 y2;go_wp2_with fail
 refine (HCM.out _ HO1.out).mono ?_;rintro e w2 ⟨VC, ⟨rfl, hc2⟩, O2⟩;obtain ⟨AC, cC, rfl, -, -, -, -⟩ := own_row hc2;have HC2 := Hd (own_low hc2 (show g ≤ w1.heap.size by have := HO1.out.size; omega));have HO2 := Hd (HO1.out.trans O2);have HB2 := Hd (O2.blk HB1.out (by simp));clear O2 HO1 HB1 hc2 HCM lB y0 y1 y2;have lB := HB2.out.lt;have y0 := HB2.out.at_ 0;have y1 := HB2.out.at_ 1;have y2 := HB2.out.at_ 2;simp at y0 y1 y2;go_wp2_with fail
 refine (HLS.out _ HO2.out).mono ?_;rintro e w3 ⟨VL, ⟨rfl, hl3⟩, O3⟩;obtain ⟨AL, cL, rfl, -, -, -, -⟩ := own_row hl3;have HL3 := Hd (own_low hl3 (show g ≤ w2.heap.size by have := HO2.out.size; omega));have HO3 := Hd (HO2.out.trans O3);have HB3 := Hd (O3.blk HB2.out (by simp));have HC3 := Hd (own_only HC2.out O3 (by simp));clear O3 HO2 HB2 HC2 hl3 HLS lB y0 y1 y2;go_wp2_with fail
 go_loopw [6, 15] (fun V iv wr => ∃ (k : Nat) (xs : List SlA), iv = .int .i64 (k : Int) ∧ k ≤ nl ∧ Hid (xs.map (fun x => x.l) = (allT h c).take k) ∧ Hid (wr.ownsRow g 33 1 V k (xs.map slC)) ∧ Hid (VVown wr g xs) ∧ Hid (wr.ownsRow g 4 1 (.slice AC n2 cC) n2 ((comL h.l c).map Value.bool)) ∧ Hid (wr.ownsRow g 27 2 (.slice AL nl cL) nl (placeC ((lostX h.l).map fun x => ((x.1 : Int), (x.2.1 : Int))))) ∧ Hid (Blk wr g 25 #[.slice A0 n0 c0, .slice A1 n1 c1, .slice A2 n2 c2]) ∧ Hid (Only [] w wr)) (fun _ iv _ => nl - (intOf iv).toNat)
 case atStart => exact ⟨0, [], rfl, by omega, Hd rfl, Hd (World.ownsRow_nil _ _ _ _), Hd (fun x hx => by cases hx), HC3, HL3, HB3, HO3⟩
 case round =>
  obtain ⟨k, xs, rfl, hk, hxs, hV, hX, hC, hL, hB, hO⟩ := hrel;clear HC3 HL3 HB3 HO3
  by_cases hlt : k < nl
  ·obtain ⟨x, hx⟩ : ∃ x, (lostX h.l)[k]? = some x := ⟨_, List.getElem?_eq_getElem (by rw [HNL.out]; exact hlt)⟩;obtain ⟨t, ht, ho, -⟩ := lostX_mem hx;have hi2 : x.1 < n2 := by rw [← HN2.out]; exact (List.getElem?_eq_some_iff.1 ht).1
   obtain ⟨b, hb⟩ : ∃ b, (comL h.l c)[x.1]? = some b := ⟨_, List.getElem?_eq_getElem (by rw [comL_len, HN2.out]; exact hi2)⟩;have HTK : Hid ((allT h c).take (k + 1) = (allT h c).take k ++ [triesO h x.1 t x.2.1 x.2.2 b]) := Hd (by
    rw [List.take_add_one, allT_get hx];unfold triesX atB;rw [ht, List.getD_eq_getElem?_getD, hb]
    rfl)
   have HT := Hd (fun w' (O : Only [] w w') => HTR.out x t b w' ht ho O);obtain ⟨b4, o4, rfl, -, hbr4, hc4⟩ := (own_row_at hL.out).1.open_ (k := k * 2) (by have e := edgeC_len ((lostX h.l).map fun x => ((x.1 : Int), (x.2.1 : Int))); rw [List.length_map, HNL.out] at e; exact Nat.lt_of_lt_of_eq (show k * 2 < nl * 2 by omega) e.symm);have hpl := placeC_at (l := (lostX h.l).map fun x => ((x.1 : Int), (x.2.1 : Int))) (k := k) (x := ((x.1 : Int), (x.2.1 : Int))) (by rw [List.getElem?_map, hx]; rfl);have p0 := hc4 _ _ hpl.1;have p1 := hc4 _ _ hpl.2;rw [← Nat.add_assoc] at p1;obtain ⟨b5, o5, rfl, -, hbr5, hc5⟩ := (own_row_at hC.out).1.open_ (k := x.1) (by rw [List.length_map, comL_len, HN2.out]; exact hi2);have q0 := hc5 x.1 _ (by rw [List.getElem?_map, hb]; rfl);have HQ0 := Hd q0;obtain ⟨i, j, o⟩ := x;dsimp only at *;generalize triesO h i t j o b = T at *;clear hx ht ho hb hc4 hc5 hpl q0;have h01 : (k : Int) < (nl : Int) := by omega
   have hk0 : (0 : Int) ≤ (k : Int) := Int.natCast_nonneg _;have hwk : IntKind.i64.wrap ((k : Int) + 1) = (k : Int) + 1 := IntWalk.i64_in _ (by have := HLN.out; have := HNL.out; omega);go_upto_region 6 with (fail)
   have O4 : Only [] wr (wr.alloc (.cells #[.int .i64 (i : Int), .int .i64 (j : Int)] 27)) := (Only.refl [] wr).alloc _;have HP4 := Hd (Blk.made wr 27 #[.int .i64 (i : Int), .int .i64 (j : Int)]);have HO4 := Hd (hO.out.trans O4);have HB4 := Hd (O4.blk hB.out (by simp));have HV4 := Hd (own_only hV.out O4 (by simp));have HX4 := Hd (hX.out.same O4);have HC4 := Hd (own_only hC.out O4 (by simp));have HL4 := Hd (own_only hL.out O4 (by simp));have HQ4 := Hd ((O4.cell (p := ⟨b5, o5 + i, none⟩) hbr5 (by simp)).trans HQ0.out);have hb4 : b5 < (wr.alloc (.cells #[.int .i64 (i : Int), .int .i64 (j : Int)] 27)).heap.size := by have := O4.size; omega
   have hi0 : (0 : Int) ≤ (i : Int) := Int.natCast_nonneg _;have hi3 : (i : Int) < (n2 : Int) := by omega
   have HNH : Hid (g ∉ u6.ownBlock.toList) := Hd (own_apart HV4.out HB4.out (by decide));have HNP : Hid (wr.heap.size ∉ u6.ownBlock.toList) := Hd (own_apart HV4.out HP4.out (by decide));have HNC : Hid (b5 ∉ u6.ownBlock.toList) := Hd (own_two HC4.out HV4.out (by decide) b5 rfl);clear O4 hB hV hX hC hL hO HQ0 hbr4 hbr5 p0 p1;generalize (wr.alloc (.cells #[.int .i64 (i : Int), .int .i64 (j : Int)] 27)) = w4 at *;generalize wr.heap.size = gp at *;have RD0 := Hd fun wq (hSw : Only u6.ownBlock.toList w4 wq) => And.intro (Bk3 (hSw.blk HB4.out HNH.out)) (And.intro (Bk2 (hSw.blk HP4.out HNP.out)) ((hSw.cell (p := ⟨b5, o5 + i, none⟩) hb4 HNC.out).trans HQ4.out));refine wp_region_noPanic ?_;refine wp_region_timed (F := [⟨[], [], fun w' => Only u6.ownBlock.toList w4 w'⟩]) (by kernel_rfl) (th1 ((Only.refl u6.ownBlock.toList w4).drew)) ?_;have OW : Only [] w4 w4.drew := (Only.refl [] w4).drew;generalize w4.drew = wz at *;refine tp (i := 0) ?_;(try simp only [tdz]);refine trd (i := 1) (v := ?_) 0 ?_ ?_;rotate_left
   ·(intro wq q; obtain ⟨⟨lb_H, y0, y1, y2⟩, ⟨lb_P, p0, p1⟩, q0⟩ := RD0.out wq q; simp at y0 y1 y2; simp at p0 p1; clear q; go_simp; try with_reducible rfl)
   (try simp only [tdz]);refine trd (i := 2) (v := ?_) 0 ?_ ?_;rotate_left
   ·(intro wq q; obtain ⟨⟨lb_H, y0, y1, y2⟩, ⟨lb_P, p0, p1⟩, q0⟩ := RD0.out wq q; simp at y0 y1 y2; simp at p0 p1; clear q; go_simp; try with_reducible rfl)
   (try simp only [tdz]);refine tp (i := 3) ?_;(try simp only [tdz]);refine tp (i := 4) ?_;(try simp only [tdz]);refine trd (i := 5) (v := ?_) 0 ?_ ?_;rotate_left
   ·(intro wq q; obtain ⟨⟨lb_H, y0, y1, y2⟩, ⟨lb_P, p0, p1⟩, q0⟩ := RD0.out wq q; simp at y0 y1 y2; simp at p0 p1; clear q; go_simp; try with_reducible rfl)
   (try simp only [tdz]);refine tp (i := 6) ?_;(try simp only [tdz]);refine trd (i := 7) (v := ?_) 0 ?_ ?_;rotate_left
   ·(intro wq q; obtain ⟨⟨lb_H, y0, y1, y2⟩, ⟨lb_P, p0, p1⟩, q0⟩ := RD0.out wq q; simp at y0 y1 y2; simp at p0 p1; clear q; go_simp; try with_reducible rfl)
   (try simp only [tdz]);refine tst (i := 8) fun K hK => ?_;go_simp;refine (HT.out _ (HO4.out.trans OW)).mono ?_;rintro e w5 ⟨VT, ⟨rfl, hT5⟩, O5⟩;obtain ⟨AT, cT, rfl, -, -, -, -⟩ := own_row hT5;have OW1 := OW.trans O5;have OT1 := own_low hT5 (show g ≤ wz.heap.size from by have := (HO4.out.trans OW).size; omega);clear O5 hT5;refine hK.out _ _ (th1 (OW1.wide (fun i hi => by cases hi))) ?_;clear hK K;(try simp only [tdz]);refine tst (i := 9) fun K hK => ?_;go_simp;have OW2 := OW1.alloc (.cells #[.slice AT T.length cT] 33);have RW2 := row_lit w5 33 #[.slice AT T.length cT];have OT2 := own_only OT1 ((Only.refl [] w5).alloc (.cells #[.slice AT T.length cT] 33)) (by simp);generalize w5.alloc (.cells #[.slice AT T.length cT] 33) = w6 at *;generalize w5.heap.size = gl at *;refine hK.out _ _ (th1 (OW2.wide (fun i hi => by cases hi))) ?_;clear hK K;(try simp only [tdz]);refine tst (i := 10) fun K hK => ?_;refine step_append_row _ rfl (.tmp 19) (.tmp 28) 54 rfl g 33 i0 _ 1 24 Tryz.underlying54 hi hz0 hz1 hz2 rfl (by omega) u6 k (xs.map slC) (by rfl) (own_only HV4.out OW2 (by simp)) _ (some ⟨gl, 0, none⟩) 1 1 [.slice AT T.length cT] (by rfl) (by rfl) RW2 (by intro u hu; simp at hu; subst hu; rfl) (by have := HLN.out; have := HNL.out; unfold maxLen; omega) (by have := HLN.out; have := HNL.out; omega) (by have := (HO4.out.trans OW2).size; omega) ?_;intro V9 w9 hown9 hgrow9 hat9;have OG : Only u6.ownBlock.toList w6 w9 := only_grown hgrow9;refine hK.out _ _ (th1 ((OW2.wide (fun i hi => by cases hi)).trans OG)) ?_;clear hK K;(try simp only [tdz]);refine tp (i := 11) ?_;(try simp only [tdz]);refine timed_done (by kernel_rfl) ?_ _;refine NoPanic.normal ?_;have HV6 := own_only HV4.out OW2 (by simp);have HV9 := Hd hown9;have HX9 : Hid (VVown w9 g (xs ++ [⟨T, AT, cT⟩])) := Hd (by
    intro x hx;rcases List.mem_append.1 hx with hx | hx
    ·have h1 := (HX4.out.same OW2) x hx;exact own_only h1 OG (own_two h1 HV6 (by decide))
    ·have e : x = ⟨T, AT, cT⟩ := by simpa using hx
     subst e;exact own_only OT2 OG (own_two OT2 HV6 (by decide)))
   have h6 := own_only HC4.out OW2 (by simp);have HC9 := Hd (own_only h6 OG (own_two h6 HV6 (by decide)));have h7 := own_only HL4.out OW2 (by simp);have HL9 := Hd (own_only h7 OG (own_two h7 HV6 (by decide)));have h8 := OW2.blk HB4.out (by simp);have HB9 := Hd (OG.blk h8 (own_apart HV6 h8 (by decide)));have HO9 := Hd ((HO4.out.trans OW2).step OG (fun i hi hl => by have := (HV6.lt i (by simpa using hi)).1; omega));have HXS : Hid ((xs ++ [(⟨T, AT, cT⟩ : SlA)]).map (fun x => x.l) = (allT h c).take (k + 1)) := Hd (by rw [HTK.out, List.map_append, hxs.out]; rfl);rw [show xs.map slC ++ [Value.slice AT T.length cT] = (xs ++ [(⟨T, AT, cT⟩ : SlA)]).map slC by rw [List.map_append]; rfl] at HV9;clear HV6 h6 h7 h8 HB4 HV4 HX4 HC4 HL4 HO4 OT2 OW2 OG hown9 hgrow9 hat9 HQ4 hxs;go_wp2
   go_roundw
   case rel => exact ⟨k + 1, _, by go_num, by omega, HXS, HV9, HX9, HC9, HL9, HB9, HO9⟩
   case measure => simp [intOf]; omega
  ·have hkn : k = nl := by omega
   subst hkn;have hd2 : decide ((k : Int) < (k : Int)) = false := by simp
   rw [List.take_of_length_le (by rw [HAL.out, HNL.out]; omega)] at hxs;go_wp2
   go_ret
   exact ⟨_, ⟨xs, rfl, hxs.out, by rw [hgg]; exact hV.out, by rw [hgg]; exact hX.out⟩, hO.out⟩
end Go.Proofs.YtjfbeeogiejopaaGreatDoor
