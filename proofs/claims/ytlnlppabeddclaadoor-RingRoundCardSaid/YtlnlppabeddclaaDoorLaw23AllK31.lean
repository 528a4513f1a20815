/- Parts. -/
import Derived.Test.YtlnlppabeddclaaDoorLaw23AllK30
import Derived.Lib.SliceRun
set_option maxRecDepth 10000
set_option maxHeartbeats 16000000
set_option linter.unusedVariables false
set_option linter.unusedSimpArgs false
namespace Go.Proofs.YtlnlppabeddclaaDoor
open Go.RowKit
attribute [local go_sem ↓] Go.wp_at_zero Go.wp_at_succ
attribute [local go_sem] Option.isNone_none Option.isNone_some
def RFill (w : World) (base b n k : Nat) (N : Nat → List Int) : Prop :=
 ∃ cs : Array Value, cs.size = n ∧ Blk w b 25 cs ∧ base ≤ b ∧ ∀ i, i < k → ∃ Ai ci, cs[i]? = some (.slice Ai (N i).length ci) ∧ w.ownsRow base 3 1 (.slice Ai (N i).length ci) (N i).length ((N i).map (Value.int .i64))
section
variable {w w' : World} {base b n k : Nat} {N : Nat → List Int}
theorem RFill.only {S : List Nat} (h : RFill w base b n k N) (O : Only S w w') (hS : ∀ i ∈ S, i < base) : RFill w' base b n k N := by
 obtain ⟨cs, h1, h2, h3, h4⟩ := h;refine ⟨cs, h1, O.blk h2 (fun hm => by have := hS b hm; omega), h3, fun i hi => ?_⟩;obtain ⟨Ai, ci, h5, h6⟩ := h4 i hi;exact ⟨Ai, ci, h5, own_only h6 O (fun g hg hm => by have := hS g hm; have := (h6.lt g hg).1; omega)⟩
theorem RFill.far {b' : Nat} {cs' : Array Value} (h : RFill w base b n k N) (h' : Blk w b' 25 cs') (hne : b ≠ b') (i : Nat) (u : Value) : RFill (w.setCell ⟨b', i, none⟩ u) base b n k N := by
 obtain ⟨cs, h1, h2, h3, h4⟩ := h;have O : Only [b'] w (w.setCell ⟨b', i, none⟩ u) := (Only.refl [b'] w).put (p := ⟨b', i, none⟩) (fun _ => by simp) _;refine ⟨cs, h1, O.blk h2 (by simpa using hne), h3, fun i hi => ?_⟩;obtain ⟨Ai, ci, h5, h6⟩ := h4 i hi;exact ⟨Ai, ci, h5, own_only h6 O (fun g hg hm => own_apart h6 h' (by decide) (by simp at hm; rw [← hm]; simp [hg]))⟩
theorem RFill.push {A : Option Addr} {c : Nat} (h : RFill w base b n k N) (hk : k < n) (hv : w.ownsRow base 3 1 (.slice A (N k).length c) (N k).length ((N k).map (Value.int .i64))) :
  RFill (w.setCell ⟨b, k, none⟩ (.slice A (N k).length c)) base b n (k + 1) N := by
 obtain ⟨cs, h1, h2, h3, h4⟩ := h;have O : Only [b] w (w.setCell ⟨b, k, none⟩ (.slice A (N k).length c)) := (Only.refl [b] w).put (p := ⟨b, k, none⟩) (fun _ => by simp) _;refine ⟨_, by rw [Array.size_setIfInBounds]; exact h1, h2.put k _, h3, fun i hi => ?_⟩;rw [Array.getElem?_setIfInBounds]
 by_cases e : k = i
 ·subst e;rw [if_pos rfl, if_pos (by omega)];exact ⟨A, c, rfl, own_only hv O (fun g hg hm => own_apart hv h2 (by decide) (by simp at hm; rw [← hm]; simp [hg]))⟩
 ·rw [if_neg e];obtain ⟨Ai, ci, h5, h6⟩ := h4 i (by omega);exact ⟨Ai, ci, h5, own_only h6 O (fun g hg hm => own_apart h6 h2 (by decide) (by simp at hm; rw [← hm]; simp [hg]))⟩
theorem RFill.rows (h : RFill w base b n n N) : NRows w (some ⟨b, 0, none⟩) n N := by
 obtain ⟨cs, h1, h2, h3, h4⟩ := h;refine ⟨cs.toList, by simp [h1], .inr ⟨b, 0, rfl, h2.lt, Nat.le_refl _, fun j u hu => by rw [Nat.zero_add, h2.at_]; simpa using hu⟩, fun i hi => ?_⟩;obtain ⟨Ai, ci, h5, h6⟩ := h4 i hi;exact ⟨Ai, ci, by simpa using h5, row_of_own h6⟩
theorem RFill.cell (h : RFill w base b n k N) {i : Nat} (hi : i < n) : (∃ u, w.cell? ⟨b, i, none⟩ = some u) ∧ w.frozen? ⟨b, i, none⟩ = false ∧ b < w.heap.size ∧ ∃ cs, Blk w b 25 cs := by
 obtain ⟨cs, h1, h2, h3, h4⟩ := h;refine ⟨⟨cs[i]'(by omega), ?_⟩, h2.free i, h2.lt, cs, h2⟩;rw [h2.at_];exact Array.getElem?_eq_getElem (by omega)
end
def rowsZ (n : Nat) : Array Value := madeCells #[.slice none 0 0] n
theorem rowsZ_size (n : Nat) : (rowsZ n).size = n := by simp [rowsZ, madeCells]
theorem RFill.start {w : World} {base b n : Nat} {N : Nat → List Int} (h : Blk w b 25 (rowsZ n)) (hb : base ≤ b) : RFill w base b n 0 N := ⟨_, rowsZ_size n, h, hb, fun i hi => by omega⟩
theorem info_rowI : (Tryd.prog.info? 25).map (fun i => (i.zero, i.size, i.bytes)) = some (some (.slice none 0 0), 1, 24) := by kernel_rfl
theorem make_rows (n : Nat) (hn : n ≤ 500) (w : World) : (Instr.makeSlice 41 (.int .i64 (n : Int)) (.int .i64 (n : Int))).run Tryd.prog w = .ok (.slice (some ⟨w.heap.size, 0, none⟩) n n) (w.alloc (.cells (rowsZ n) 25)) := by
 obtain ⟨i0, hi, hz0, hz1, hz2⟩ := info_parts info_rowI;have := run_make (P := Tryd.prog) w 41 25 i0 _ Tryd.underlying41 hi hz0 .i64 .i64 (n : Int) (n : Int) (by omega) (by omega) (by rw [hz2]; omega) (by omega);rw [hz1] at this;simp only [Int.toNat_natCast, Nat.mul_one] at this;exact this
def ringF (E : Nat → Nat → Bool) (n a : Nat) : Option (List Nat) := (List.range n).findSome? fun m => onT E n m [a]
def RingOk (E : Nat → Nat → Bool) (n a : Nat) (R : Option (List Nat)) : Prop :=
 (R = none → ∀ m, onT E n m [a] = none) ∧ ∀ r, R = some r → 0 < r.length ∧ r.length ≤ n ∧ onT E n (r.length - 1) [a] = some r ∧ ∀ m, m < r.length - 1 → onT E n m [a] = none
theorem RingOk.eq {E : Nat → Nat → Bool} {n a : Nat} {R : Option (List Nat)} (h : RingOk E n a R) : R = ringF E n a := by
 cases R with
 | none => exact (findSome_none fun m _ => h.1 rfl m).symm
 | some r =>
  obtain ⟨h1, h2, h3, h4⟩ := h.2 r rfl;exact (findSome_range (i := r.length - 1) (by omega) (fun j hj => h4 j hj) h3).symm
theorem bestR_succ_none {R : Nat → Option (List Nat)} {k : Nat} (h : R k = none) : bestR R (k + 1) = bestR R k := by rw [bestR, h]
theorem bestR_first {R : Nat → Option (List Nat)} {k : Nat} {r : List Nat} (h : R k = some r) (hb : bestR R k = none) : bestR R (k + 1) = some r := by rw [bestR, h, hb]
theorem bestR_two {R : Nat → Option (List Nat)} {k : Nat} {r b : List Nat} (h : R k = some r) (hb : bestR R k = some b) : bestR R (k + 1) = if r.length < b.length then some r else some b := by rw [bestR, h, hb]
theorem NRows.congr {w : World} {A : Option Addr} {n : Nat} {N N' : Nat → List Int} (h : NRows w A n N) (e : ∀ i, i < n → N i = N' i) : NRows w A n N' := by
 obtain ⟨vals, h1, h2, h3⟩ := h;exact ⟨vals, h1, h2, fun i hi => by rw [← e i hi]; exact h3 i hi⟩
theorem rleast23_any (q : Nat) (A : Option Addr) (m c : Nat) (l : List (Int × Int)) (w : World) (hq : q ≤ 500) (hr : Row w w.heap.size A (edgeC l)) (hl : l.length = m) (hm : m ≤ 1000) (hT : Tab w) (h00 : 0 < w.heap.size) (hgd : l.all (goodE q) = true) :
  Calls Tryd.prog 7 #[.int .i64 (q : Int), .slice A m c] w fun e w' => ∃ A' c', (e = .returned (.tuple #[.slice A' ((ringL (edB l) q).getD []).length c', .int .i64 (if (ringL (edB l) q).isSome then 0 else 3)]) ∧ w'.ownsRow w.heap.size 3 1 (.slice A' ((ringL (edB l) q).getD []).length c') ((ringL (edB l) q).getD []).length (intsQ ((ringL (edB l) q).getD []))) ∧ Only [] w w' := by
 have HG := Hd (gof_any q A m c l w hq hr hl hm);have HT := Hd hT;have h00' := h00;have HWF := Hd (wf_good hgd);have hs : ∀ e, e ∈ (ofS q l).2.2 ↔ e ∈ l := fun e => by rw [(rel_of hq l).2]; exact mem_rof hgd e
 obtain ⟨N, hN⟩ : ∃ N : Nat → List Int, ∀ i : Nat, nextL q (ofS q l).2.2 (i : Int) = N i := ⟨fun i => nextL q (ofS q l).2.2 (i : Int), fun i => rfl⟩;obtain ⟨M, hM⟩ : ∃ M : Nat → List Int, ∀ i : Nat, backL q (ofS q l).2.2 (i : Int) = M i := ⟨fun i => backL q (ofS q l).2.2 (i : Int), fun i => rfl⟩;have HNX := Hd (fun (w1 : World) (fp : List Nat) (i : Nat) (hi : i < q) (hz : w.heap.size ≤ w1.heap.size) (hTw : Tab w1) (hGr : Gr w1 w.heap.size q (ofS q l).1 (ofS q l).2.1 (ofS q l).2.2 fp) => by
  have := gnext_some w.heap.size q (ofS q l).1 (ofS q l).2.1 (ofS q l).2.2 fp i w1 hGr hi hTw (Nat.lt_of_lt_of_le h00' hz);rw [rel_next (rel_of hq l).1 hq i hi, hN i] at this;exact this)
 have HBX := Hd (fun (w1 : World) (fp : List Nat) (i : Nat) (hi : i < q) (hz : w.heap.size ≤ w1.heap.size) (hTw : Tab w1) (hGr : Gr w1 w.heap.size q (ofS q l).1 (ofS q l).2.1 (ofS q l).2.2 fp) => by
  have := gback_some w.heap.size q (ofS q l).1 (ofS q l).2.1 (ofS q l).2.2 fp i w1 hGr hi hTw (Nat.lt_of_lt_of_le h00' hz);rw [rel_back (rel_of hq l).1 hq i hi, hM i] at this;exact this)
 obtain ⟨E, hE0⟩ : ∃ E : Nat → Nat → Bool, E = edB l := ⟨_, rfl⟩;rw [← hE0];obtain ⟨RL, hRL⟩ : ∃ RL, RL = ringL E q := ⟨_, rfl⟩;rw [← hRL];obtain ⟨RC, hRC⟩ : ∃ RC : Int, RC = if RL.isSome then 0 else 3 := ⟨_, rfl⟩
 rw [← hRC];have HRL := Hd hRL;have HRC := Hd hRC;clear hRL hRC;have HE : Hid (∀ u v, E u v = true → u < q ∧ v < q) := Hd (fun u v h => by
  have := next_ed HWF.out hs u v;rw [← hE0, h, decide_eq_true_eq] at this;have h2 := (hs _).1 (mem_nextL.1 this).2;exact wf_lt HWF.out h2)
 have HNF : Hid (∀ u, u < q → N u = ((List.range q).filter (E u)).map fun v : Nat => (v : Int)) := Hd (fun u _ => by
  rw [← hN];unfold nextL
  congr 1
  refine List.filter_congr fun b hb => ?_;rw [hE0];unfold edB;rw [decide_eq_decide];exact hs _)
 have HMB : Hid (∀ u, u < q → ∀ v : Nat, E v u = true ↔ (v : Int) ∈ M u) := Hd (fun u _ v => by
  rw [← hM, hE0, ← back_ed HWF.out hs u v, decide_eq_true_eq])
 have HMN : Hid (∀ u, u < q → ∀ z ∈ M u, ∃ v : Nat, z = (v : Int) ∧ v < q) := Hd (fun u _ z hz => by
  rw [← hM] at hz;have := backL_range z hz;exact ⟨z.toNat, by omega, by omega⟩)
 have HML : Hid (∀ u, u < q → (M u).length ≤ q) := Hd (fun u _ => by
  rw [← hM];unfold backL;rw [List.length_map];exact Nat.le_trans (List.length_filter_le _ _) (by simp))
 have HNL : Hid (∀ u, u < q → ((List.range q).filter (E u)).length ≤ q) := Hd (fun u _ => Nat.le_trans (List.length_filter_le _ _) (by simp));have HGD := Hd hgd;clear hgd hs hN hM hE0 hr hl hT HWF;have hmk := fun W => make_rows q hq W;have qeq : ∀ (W : World) (a : Option Addr) (n c : Nat), (binOp .eql 25 (.slice a n c) (.slice none 0 0)).run Tryd.prog W = .ok (.bool a.isNone) W := fun W a n c => Lib.run_eql_slice_nil W _ _ a n c 0 0 Tryd.underlying25;go_enter Tryd.func7, Tryd.ntmps7;go_wp2_with fail
 refine (HG.out).mono ?_;rintro e w1 ⟨O1, ⟨hgd, -⟩ | ⟨-, rfl, fp, hGr, hfp⟩⟩
 ·rw [HGD.out] at hgd
  cases hgd
 have HO1 := Hd O1;have HT1 := Hd (fun (W : World) (O : Only [] w1 W) => (HT.out.only h00' O1 (by simp)).only (Nat.lt_of_lt_of_le h00' O1.size) O (by simp));have hs1 := O1.size;have HNX1 := Hd (fun (W : World) (O : Only [] w1 W) (i : Nat) (hi : i < q) => HNX.out W fp i hi (Nat.le_trans hs1 O.size) (HT1.out W O) (hGr.only O (by simp)));have HBX1 := Hd (fun (W : World) (O : Only [] w1 W) (i : Nat) (hi : i < q) => HBX.out W fp i hi (Nat.le_trans hs1 O.size) (HT1.out W O) (hGr.only O (by simp)));clear HG hGr hfp O1 HGD HNX HBX HT HT1;go_upto_region 4 with (fail)
 refine rg1 [] [] w1 ?_;have OW : Only [] w1 w1.drew := (Only.refl [] w1).drew;generalize hwz : w1.drew = wz at *;clear hwz;refine tQ 0 (h := tQ 2 (h := ?_))
 apply cut_2_0 (fun w b1 b2 => (Only [] w1 w) ∧ (Blk w b1 25 (rowsZ q)) ∧ (w1.heap.size ≤ b1) ∧ (Blk w b2 25 (rowsZ q)) ∧ (w1.heap.size ≤ b2) ∧ (b1 ≠ b2))
 intro HST1_3
 apply cut_1_0 (fun w b2 => (Only [] w1 w) ∧ (Blk w b2 25 (rowsZ q)) ∧ (w1.heap.size ≤ b2))
 intro HST3
 apply cut_1_0 (fun w b1 => (Only [] w1 w) ∧ (Blk w b1 25 (rowsZ q)) ∧ (w1.heap.size ≤ b1))
 intro HST1
 ·refine timed_forks (l := [1, 3]) (by kernel_rfl) (by simp) (fork_cons ⟨_, rfl, fun K hK => ?_⟩ (fork_cons ⟨_, rfl, fun K hK => ?_⟩ (fork_nil)))
  ·go_simp;obtain ⟨OS, OWn, BLn, hszn⟩ := made_go 25 (rowsZ q) OW;generalize wz.alloc (.cells (rowsZ q) 25) = wn at *;generalize wz.heap.size = b1 at *;refine kOut hK (OWn) (h := ?_);clear hK K;refine tQ 4 (h := ?_);exact HST1 wn b1 ⟨OWn, BLn, hszn⟩
  ·go_simp;obtain ⟨OS, OWn, BLn, hszn⟩ := made_go 25 (rowsZ q) OW;generalize wz.alloc (.cells (rowsZ q) 25) = wn at *;generalize wz.heap.size = b2 at *;refine kOut hK (OWn) (h := ?_);clear hK K;exact HST3 wn b2 ⟨OWn, BLn, hszn⟩
 ·intro wz b1 ⟨OW, BL1, GE1⟩;refine tst (i := 3) fun K hK => ?_;go_simp;obtain ⟨OS, OWn, BLn, hszn⟩ := made_go 25 (rowsZ q) OW;have NE1_3 : b1 ≠ wz.heap.size := Nat.ne_of_lt BL1.lt;generalize wz.alloc (.cells (rowsZ q) 25) = wn at *;generalize wz.heap.size = b2 at *;refine kOut hK (OWn) (h := ?_);clear hK K;refine tQ 5 (h := ?_);exact HST1_3 wn b1 b2 ⟨OWn, OS.blk BL1 (by simp), GE1, BLn, hszn, NE1_3⟩
 ·intro wz b2 ⟨OW, BL3, GE3⟩;refine tst (i := 1) fun K hK => ?_;go_simp;obtain ⟨OS, OWn, BLn, hszn⟩ := made_go 25 (rowsZ q) OW;have NE1_3 : wz.heap.size ≠ b2 := Nat.ne_of_gt BL3.lt;generalize wz.alloc (.cells (rowsZ q) 25) = wn at *;generalize wz.heap.size = b1 at *;refine kOut hK (OWn) (h := ?_);clear hK K;refine tQ 4 (h := tQ 5 (h := ?_));exact HST1_3 wn b1 b2 ⟨OWn, BLn, hszn, OS.blk BL3 (by simp), GE3, NE1_3⟩
 -- behind all of the crowd
 intro wz b1 b2 ⟨OW, BL1, GE1, BL3, GE3, NE1_3⟩;refine tdn ?_;have HF1 : Hid (RFill wz w1.heap.size b1 q 0 N) := Hd (.start BL1 GE1);have HF2 : Hid (RFill wz w1.heap.size b2 q 0 M) := Hd (.start BL3 GE3);have HO3 := Hd OW;have hne := NE1_3;have hne2 := NE1_3.symm;clear BL1 BL3 OW NE1_3 hmk;go_wp2_with fail
 go_loopw [29] (fun iv wr => ∃ k : Nat, iv = .int .i64 (k : Int) ∧ k ≤ q ∧ Hid (RFill wr w1.heap.size b1 q k N) ∧ Hid (RFill wr w1.heap.size b2 q k M) ∧ Hid (Only [] w1 wr)) (fun iv _ => q - (intOf iv).toNat)
 case atStart => exact ⟨0, rfl, by omega, HF1, HF2, HO3⟩
 case round =>
  obtain ⟨k, rfl, hk, hF1, hF2, hO⟩ := hrel;clear HF1 HF2 HO3
  by_cases hlt : k < q
  ·have HNW := Hd (HNX1.out wr hO.out k hlt);have HBW := Hd (fun W O => HBX1.out W (hO.out.trans O) k hlt);have h01 : (k : Int) < (q : Int) := by omega
   have hk0 : (0 : Int) ≤ (k : Int) := Int.natCast_nonneg _;have hwk : IntKind.i64.wrap ((k : Int) + 1) = (k : Int) + 1 := IntWalk.i64_in _ (by omega);go_wp2_with fail
   refine (HNW.out).mono ?_;rintro e w4 ⟨v4, ⟨rfl, hv4⟩, O4⟩;obtain ⟨A4, c4, rfl, -, -, -, -⟩ := own_row hv4;have HV4 := Hd (own_lower hv4 hO.out.size);have HO4 := Hd O4;clear HNW hv4 O4;go_wp2_with fail
   refine (HBW.out w4 HO4.out).mono ?_;rintro e w5 ⟨v5, ⟨rfl, hv5⟩, O5⟩;obtain ⟨A5, c5, rfl, -, -, -, -⟩ := own_row hv5;have HO5 := Hd ((hO.out.trans HO4.out).trans O5);have HV5 := Hd (own_lower hv5 (hO.out.trans HO4.out).size);have HV45 := Hd (own_only HV4.out O5 (by simp));have HF15 := Hd ((hF1.out.only HO4.out (by simp)).only O5 (by simp));have HF25 := Hd ((hF2.out.only HO4.out (by simp)).only O5 (by simp));clear HBW hv5 O5 HO4 hF1 hF2 hO HV4;have HF1P := Hd (HF15.out.push hlt HV45.out);obtain ⟨⟨u1, k1⟩, f1, l1, cs1, HB1⟩ := HF15.out.cell hlt;obtain ⟨⟨u2, k2⟩, f2, l2, cs2, HB2⟩ := HF25.out.cell hlt;have HF2F := Hd (HF25.out.far HB1 hne2 k (.slice A4 (N k).length c4));have OW1 : Only [b1] w5 (w5.setCell ⟨b1, k, none⟩ (.slice A4 (N k).length c4)) := (Only.refl [b1] w5).put (p := ⟨b1, k, none⟩) (fun _ => by simp) _;have HV5P := Hd (own_only HV5.out OW1 (fun g hg hm => own_apart HV5.out HB1 (by decide) (by simp at hm; rw [← hm]; simp [hg])));have HF2P := Hd (HF2F.out.push hlt HV5P.out);obtain ⟨-, -, -, cs3, HB3⟩ := HF2F.out.cell hlt;have HF1F := Hd (HF1P.out.far HB3 hne k (.slice A5 (M k).length c5));clear HB1 HB2 HB3 HF2F OW1 HV5P HF1P;have OP : Only [] w1 ((w5.setCell ⟨b1, k, none⟩ (.slice A4 (N k).length c4)).setCell ⟨b2, k, none⟩ (.slice A5 (M k).length c5)) := (HO5.out.put (p := ⟨b1, k, none⟩) (fun h => by simp at h; omega) _).put (p := ⟨b2, k, none⟩) (fun h => by simp at h; omega) _;have HOP := Hd OP;clear OP HF15 HF25 HV5 HV45;go_wp2
   go_roundw
   case rel => exact ⟨k + 1, by go_num, by omega, HF1F, HF2P, HOP⟩
   case measure => simp [intOf]; omega
  ·have hkq : k = q := by omega
   subst hkq;have hd2 : decide ((k : Int) < (k : Int)) = false := by simp
   obtain ⟨w5, hw5⟩ : ∃ w5 : World, w5 = wr := ⟨_, rfl⟩;subst hw5;have HR1 := Hd (hF1.out.rows.congr HNF.out);have HR2 := Hd hF2.out.rows;have HO5 := hO;clear hF1 hF2 hO HNX1 HBX1 HNF;go_upto_region 11 with (fail)
   go_wp2_with fail
   go_loopw [11, 46] (fun bv iv wr => ∃ (a : Nat) (B : Option (List Nat)) (A : Option Addr) (c : Nat), bv = .slice A (B.getD []).length c ∧ iv = .int .i64 a ∧ a ≤ k ∧ (B = none → A = none ∧ c = 0) ∧ (∀ r, B = some r → ∃ g, A = some ⟨g, 0, none⟩) ∧ Hid (B = bestR (ringF E k) a) ∧ Hid (∀ c, c < a → RingOk E k c (ringF E k c)) ∧ Hid (wr.ownsRow w1.heap.size 3 1 (.slice A (B.getD []).length c) (B.getD []).length (intsQ (B.getD []))) ∧ Hid (Only [] w5 wr)) (fun _ iv _ => k - (intOf iv).toNat)
   case atStart => exact ⟨0, none, none, 0, rfl, rfl, by omega, fun _ => ⟨rfl, rfl⟩, (fun r h => by cases h), Hd rfl, Hd (fun c hc => by omega), Hd (World.ownsRow_nil _ _ _ _), Hd (Only.refl _ _)⟩
   case round =>
    obtain ⟨a, B, A, c, rfl, rfl, hak, hn0, hs0, hB, hK, hV, hO⟩ := hrel
    by_cases hlt : a < k
    ·have h01 : (a : Int) < (k : Int) := by omega
     have ha0 : (0 : Int) ≤ (a : Int) := Int.natCast_nonneg _;have hwa : IntKind.i64.wrap ((a : Int) + 1) = (a : Int) + 1 := IntWalk.i64_in _ (by omega);go_upto_region 15 with (fail)
     have HX6 := Hd (Blk.made wr 3 #[.int .i64 (a : Int)]);have O6 : Only [] wr (wr.alloc (.cells #[.int .i64 (a : Int)] 3)) := (Only.refl [] wr).alloc _;have HO6 := Hd (hO.out.trans O6);have HV6 := Hd (own_only hV.out O6 (by simp));clear hO hV O6;generalize (wr.alloc (.cells #[.int .i64 (a : Int)] 3)) = w6 at *;obtain ⟨px, hpx⟩ : ∃ px, px = wr.heap.size := ⟨_, rfl⟩;rw [← hpx] at HX6 ⊢;clear hpx;have HC6 : Hid (∀ W, Only [] w6 W → W.cell? ⟨px, 0, none⟩ = some (.int .i64 (a : Int)) ∧ px < W.heap.size) := Hd (fun W O => by
      have h := O.blk HX6.out (by simp);refine ⟨?_, h.lt⟩;have := h.at_ 0
      simpa using this)
     have HFAR := Hd (fun W (O : Only [] w6 W) => far_any k a px k (some ⟨b2, 0, none⟩) M E W hq hlt (HR2.out.same (HO6.out.trans O)) HML.out HMB.out HMN.out HE.out (HC6.out W O).1 (HC6.out W O).2);have HTHR := Hd (fun bD D W (O : Only [] w6 W) hB hF hD => through_any k a px bD k (some ⟨b1, 0, none⟩) (fun u => (List.range k).filter (E u)) D E W hq hlt (HR1.out.same (HO6.out.trans O)) HNL.out (fun u _ => rfl) HE.out hB hF hD (HC6.out W O).1 (HC6.out W O).2);have RD0 := Hd fun wq (hSw : Only [] w6 wq) => Bk1 (hSw.blk HX6.out (by simp)) 0;refine rg1 [] [] w6 ?_;have OW : Only [] w6 w6.drew := (Only.refl [] w6).drew;generalize w6.drew = wz at *;refine trq 0 0 RD0 (h := tQ 1 (h := trq 2 0 RD0 (h := tQ 3 (h := tQ 4 (h := tQ 6 (h := ?_))))));refine tst (i := 5) fun K hK => ?_;go_simp;refine (HFAR.out _ OW).mono ?_;rintro e wa ⟨bD, D, ⟨rfl, hB5, hge5, hF5, hD5⟩, Oa⟩;have OW1 := OW.trans Oa;clear Oa;refine kOut hK (OW1) (h := ?_);clear hK K;refine tst (i := 7) fun K hK => ?_;go_simp;refine (HTHR.out bD D _ OW1 hB5 hF5 hD5).mono ?_;rintro e wb ⟨R, A7, c7, ⟨rfl, hn7, hs7, hv7, ht7⟩, Ob⟩;have OW2 := OW1.trans Ob;refine kOut hK (OW2) (h := ?_);clear hK K;refine tQ 8 (h := ?_);refine tdn ?_;have HRK := Hd (ht7.rings hF5 HE.out hlt (fun S h1 h2 => nodup_len23 h1 h2));have HRE : Hid (R = ringF E k a) := Hd (RingOk.eq HRK.out);have HK8 : Hid (∀ c, c < a + 1 → RingOk E k c (ringF E k c)) := Hd (fun c hc => by
      rcases Nat.lt_or_ge c a with h | h
      ·exact hK.out c h
      ·obtain rfl : c = a := by omega
       rw [← HRE.out];exact HRK.out)
     have HO8 := Hd (HO6.out.trans OW2);have HV8 := Hd (own_only HV6.out OW2 (by simp));have HN8 := Hd (own_lower hv7 (Nat.le_trans (HO5.out.trans HO6.out).size OW1.size));clear hv7 ht7 hF5 hB5 hD5 OW OW1 OW2 Ob HX6 HC6 HFAR HTHR hK HO6 HV6 HRK
     cases R with
     | none =>
      obtain ⟨rfl, rfl⟩ := hn7 rfl;have HB8 : Hid (B = bestR (ringF E k) (a + 1)) := Hd (by rw [bestR_succ_none HRE.out.symm]; exact hB.out);clear HN8;simp only [Option.getD_none, List.length_nil];go_wp2
      go_roundw
      case rel => exact ⟨a + 1, B, A, c, rfl, by go_num, by omega, hn0, hs0, HB8, HK8, HV8, HO8⟩
      case measure => simp [intOf]; omega
     | some r =>
      obtain ⟨g7, rfl⟩ := hs7 r rfl;simp only [Option.getD_some] at HN8 ⊢
      cases B with
      | none =>
       obtain ⟨rfl, rfl⟩ := hn0 rfl;have HB8 : Hid (some r = bestR (ringF E k) (a + 1)) := Hd (bestR_first HRE.out.symm hB.out.symm).symm;simp only [Option.getD_none, List.length_nil];go_wp2
       go_roundw
       case rel => exact ⟨a + 1, some r, _, c7, rfl, by go_num, by omega, (fun h => by cases h), (fun _ _ => ⟨g7, rfl⟩), HB8, HK8, HN8, HO8⟩
       case measure => simp [intOf]; omega
      | some b =>
       obtain ⟨g0, rfl⟩ := hs0 b rfl;simp only [Option.getD_some] at HV8 ⊢;have HT8 := bestR_two HRE.out.symm hB.out.symm
       by_cases hlb : r.length < b.length
       ·rw [if_pos hlb] at HT8;have HB8 := Hd HT8.symm;have hlb2 : (r.length : Int) < (b.length : Int) := by omega
        clear HT8;go_wp2
        go_roundw
        case rel => exact ⟨a + 1, some r, _, c7, rfl, by go_num, by omega, (fun h => by cases h), (fun _ _ => ⟨g7, rfl⟩), HB8, HK8, HN8, HO8⟩
        case measure => simp [intOf]; omega
       ·rw [if_neg hlb] at HT8;have HB8 := Hd HT8.symm;have hlb2 : ¬ (r.length : Int) < (b.length : Int) := by omega
        clear HT8;go_wp2
        go_roundw
        case rel => exact ⟨a + 1, some b, _, c, rfl, by go_num, by omega, (fun h => by cases h), (fun _ _ => ⟨g0, rfl⟩), HB8, HK8, HV8, HO8⟩
        case measure => simp [intOf]; omega
    ·have hka : a = k := by omega
     subst hka;have hd3 : decide ((a : Int) < (a : Int)) = false := by simp
     have HL : Hid (B = RL) := Hd (by rw [hB.out, HRL.out]; exact (least_best hK.out).symm);have HOF := Hd (HO1.out.trans (HO5.out.trans hO.out));have HVF := Hd (own_lower hV.out hs1);clear hB hK hV hO HO5 HO1 HR1 HR2
     cases B with
     | none =>
      obtain ⟨rfl, rfl⟩ := hn0 rfl;simp only [Option.getD_none, List.length_nil];go_wp2
      exact bodyPost_ret (v := .tuple #[.slice none 0 0, .int .i64 3]) (by simp [results, Tryd.results7, go_sem]) rfl (by rw [HRC.out, ← HL.out]; first | exact ⟨none, 0, ⟨rfl, World.ownsRow_nil _ _ _ _⟩, HOF.out⟩ | exact ⟨⟨none, 0, rfl, World.ownsRow_nil _ _ _ _⟩, HOF.out⟩)
     | some b =>
      obtain ⟨g0, rfl⟩ := hs0 b rfl;simp only [Option.getD_some] at HVF ⊢;go_wp2
      exact bodyPost_ret (v := .tuple #[.slice (some ⟨g0, 0, none⟩) b.length c, .int .i64 0]) (by simp [results, Tryd.results7, go_sem]) rfl (by rw [HRC.out, ← HL.out]; exact ⟨_, c, ⟨rfl, HVF.out⟩, HOF.out⟩)
end Go.Proofs.YtlnlppabeddclaaDoor
