/- The package inner: Own, Outer, Leaves, Bad. The package inner: Own, Outer. -/
import Derived.Test.YtjhomlnlmpdklaaGreatDoorInnerAgreesCardK31
import Derived.Test.YtjhomlnlmpdklaaGreatDoorInnerAgreesCardK33
import Derived.Test.YtjhomlnlmpdklaaGreatDoorInnerAgreesCardK34
import Derived.Test.YtjhomlnlmpdklaaGreatDoorInnerAgreesCardK10
import Derived.Test.YtjhomlnlmpdklaaGreatDoorInnerAgreesCardK19
set_option linter.unusedVariables false
set_option linter.unusedSimpArgs false
namespace Go.Proofs.YtjhomlnlmpdklaaGreatDoor
open Go.RowKit
open Go.Lib hiding intOf
attribute [local go_sem ↓] Go.wp_at_zero Go.wp_at_succ
theorem leftW_nil' (key : Int) : leftW key [] = none := rfl
theorem txn_ops {h : Hst} {a : Int} {t : Tx} (hs : HSmall h) (ht : txAtH h a = some t) : t.ops.length ≤ 1000 := by
 unfold txAtH at ht
 split at ht
 ·exact hs.no t (List.mem_of_getElem? ht)
 ·cases ht
theorem txn_may {h : Hst} {a : Int} {t : Tx} (ht : txAtH h a = some t) : mayH h = true ∧ t ∈ h.l := by
 unfold txAtH at ht
 split at ht
 ·rename_i hc
  exact ⟨hc.1, List.mem_of_getElem? ht⟩
 ·cases ht
theorem may_keys {h : Hst} (hm : mayH h = true) {t : Tx} (ht : t ∈ h.l) : KeyOk t.ops ∧ t.ops.length ≤ 20 := by
 unfold mayH namesB txsB opsB at hm
 simp only [Bool.and_eq_true, decide_eq_true_eq] at hm
 obtain ⟨-, ⟨hk, -⟩, ⟨-, hx, -⟩, ho, -⟩ := hm
 refine ⟨fun o hop => ?_, ?_⟩
 ·have h1 := List.all_eq_true.1 (List.all_eq_true.1 ho t ht) o hop
  unfold opB at h1
  simp only [Bool.and_eq_true, decide_eq_true_eq] at h1
  omega
 ·have h1 := List.all_eq_true.1 hx t ht
  unfold txB at h1
  simp only [Bool.and_eq_true, decide_eq_true_eq] at h1
  omega
set_option maxRecDepth 10000 in
set_option maxHeartbeats 4000000 in
theorem ileaves_any (A0 A1 A2 : Option Addr) (n0 n1 n2 c0 c1 c2 B : Nat) (h : Hst) (a key : Int) (w : World) (hg : HIn w B A0 A1 A2 n0 n1 n2 h) :
  Calls Tryz.prog 15 #[hval A0 A1 A2 n0 n1 n2 c0 c1 c2, .int .i64 a, .int .i64 key] w fun e w' => e = .returned (optT (leavesO h a key)) ∧ Only [] w w' := by
 have HT0 := Lib.hid (fun w' (O : Only [] w w') => txn_no A0 A1 A2 n0 n1 n2 c0 c1 c2 B h a w' (hg.same O))
 have HT1 := Lib.hid (fun t w' (O : Only [] w w') => txn_yes A0 A1 A2 n0 n1 n2 c0 c1 c2 B h a t w' (hg.same O))
 have HS := Lib.hid hg.sm
 unfold hval at HT0 HT1 ⊢
 clear hg
 have O1 : Only [] w ((w.alloc (.cells #[.slice A0 n0 c0, .slice A1 n1 c1, .slice A2 n2 c2] 25)).alloc (.cells #[.int .i64 0, .int .i64 0] 30)) := ((Only.refl [] w).alloc _).alloc _
 have HR1 := Lib.hid (Blk.made (w.alloc (.cells #[.slice A0 n0 c0, .slice A1 n1 c1, .slice A2 n2 c2] 25)) 30 #[.int .i64 0, .int .i64 0])
 rw [World.size_alloc] at HR1
 have HO1 := Lib.hid O1
 clear O1
 cases ht : txAtH h a with
 | none =>
  rw [leaves_none ht]
  have HF := Lib.hid (HT0.out _ HO1.out ht)
  clear ht HT0 HT1
  go_enter Tryz.func15, Tryz.ntmps15
  go_wp2_with fail
  generalize ((w.alloc (.cells #[.slice A0 n0 c0, .slice A1 n1 c1, .slice A2 n2 c2] 25)).alloc (.cells #[.int .i64 0, .int .i64 0] 30)) = w1 at *
  generalize hgr : w.heap.size + 1 = gr at *
  refine (HF.out).mono ?_
  rintro e w2 ⟨rfl, O2⟩
  have HO2 := Lib.hid (HO1.out.trans O2)
  have HR2 := Lib.hid (O2.blk HR1.out (by simp))
  clear O2 HF
  go_wp2_with fail
  refine (left_any none 0 0 0 [] key w2 (.inl rfl) rfl (by omega)).mono ?_
  rintro e w3 ⟨rfl, O3⟩
  have HO3 := Lib.hid (HO2.out.trans O3)
  have HR3 := Lib.hid (O3.blk HR2.out (by simp))
  rw [leftW_nil']
  unfold optT optV
  clear O3
  go_wp2_with (refine wpList_store_blk rfl 30 (.tmp 6) (.tmp 19) rfl gr 30 _ #[.int .i64 0, .int .i64 0] rfl rfl HR3.out rfl (by kernel_rfl) (by kernel_rfl) ?_; intro w9 b9 o9; have HB9 := Lib.hid b9; have HN9 := Lib.hid o9; clear b9 o9)
  refine bodyPost_ret (results_row2 Tryz.results15 _ _ gr 30 #[.int .i64 0, .int .i64 0] _ rfl HB9.out Tryz.underlying30 rfl (by kernel_rfl)) rfl ?_
  exact ⟨rfl, HO3.out.step HN9.out (fun i hi hl => by simp at hi; omega)⟩
 | some t =>
  rw [leaves_some ht]
  have HF := Lib.hid (HT1.out t _ HO1.out ht)
  have hno := txn_ops HS.out ht
  have HLF := Lib.hid (fun (A : Option Addr) (c : Nat) w' hrow => left_any A _ c B t.ops key w' hrow rfl hno)
  clear ht HT0 HT1 hno
  generalize leftW key t.ops = v at *
  go_enter Tryz.func15, Tryz.ntmps15
  go_wp2_with fail
  generalize ((w.alloc (.cells #[.slice A0 n0 c0, .slice A1 n1 c1, .slice A2 n2 c2] 25)).alloc (.cells #[.int .i64 0, .int .i64 0] 30)) = w1 at *
  generalize hgr : w.heap.size + 1 = gr at *
  refine (HF.out).mono ?_
  rintro e w2 ⟨A, c, ⟨rfl, hX⟩, O2⟩
  have HO2 := Lib.hid (HO1.out.trans O2)
  have HR2 := Lib.hid (O2.blk HR1.out (by simp))
  have HX := Lib.hid hX
  clear O2 HF hX
  go_wp2_with fail
  refine (HLF.out A c w2 HX.out.row).mono ?_
  rintro e w3 ⟨rfl, O3⟩
  have HO3 := Lib.hid (HO2.out.trans O3)
  have HR3 := Lib.hid (O3.blk HR2.out (by simp))
  unfold optT optV
  clear O3
  go_wp2_with (refine wpList_store_blk rfl 30 (.tmp 6) (.tmp 19) rfl gr 30 _ #[.int .i64 (v.getD (0, 0)).1, .int .i64 (v.getD (0, 0)).2] rfl rfl HR3.out rfl (by kernel_rfl) (by kernel_rfl) ?_; intro w9 b9 o9; have HB9 := Lib.hid b9; have HN9 := Lib.hid o9; clear b9 o9)
  refine bodyPost_ret (results_row2 Tryz.results15 _ _ gr 30 #[.int .i64 (v.getD (0, 0)).1, .int .i64 (v.getD (0, 0)).2] _ rfl HB9.out Tryz.underlying30 rfl (by kernel_rfl)) rfl ?_
  exact ⟨rfl, HO3.out.step HN9.out (fun i hi hl => by simp at hi; omega)⟩
set_option maxRecDepth 10000 in
set_option maxHeartbeats 4000000 in
theorem ibad_any (A0 A1 A2 : Option Addr) (n0 n1 n2 c0 c1 c2 B : Nat) (h : Hst) (a : Int) (w : World) (hg : HIn w B A0 A1 A2 n0 n1 n2 h) :
  Calls Tryz.prog 18 #[hval A0 A1 A2 n0 n1 n2 c0 c1 c2, .int .i64 a] w fun e w' => ∃ A' c', (e = .returned (.slice A' (badH h a).length c') ∧ Row w' w'.heap.size A' ((badH h a).map (Value.int .i64))) ∧ Only [] w w' := by
 have HT0 := Lib.hid (fun w' (O : Only [] w w') => txn_no A0 A1 A2 n0 n1 n2 c0 c1 c2 B h a w' (hg.same O))
 have HT1 := Lib.hid (fun t w' (O : Only [] w w') => txn_yes A0 A1 A2 n0 n1 n2 c0 c1 c2 B h a t w' (hg.same O))
 have HS := Lib.hid hg.sm
 unfold hval at HT0 HT1 ⊢
 clear hg
 have HO1 := Lib.hid ((Only.refl [] w).alloc (.cells #[.slice A0 n0 c0, .slice A1 n1 c1, .slice A2 n2 c2] 25))
 cases ht : txAtH h a with
 | none =>
  rw [bad_none ht]
  have HF := Lib.hid (HT0.out _ HO1.out ht)
  clear ht HT0 HT1
  go_enter Tryz.func18, Tryz.ntmps18
  go_wp2_with fail
  refine (HF.out).mono ?_
  rintro e w2 ⟨rfl, O2⟩
  have HO2 := Lib.hid (HO1.out.trans O2)
  clear O2 HF
  go_wp2_with fail
  refine (kbad_any none 0 0 0 [] w2 (.inl rfl) rfl (by omega) (fun o ho => by cases ho)).mono ?_
  rintro e w3 ⟨A', c', ⟨rfl, hR⟩, O3⟩
  have HO3 := Lib.hid (HO2.out.trans O3)
  have HR := Lib.hid hR
  clear O3 hR
  go_wp2
  go_ret
  exact ⟨_, _, ⟨rfl, HR.out⟩, HO3.out⟩
 | some t =>
  rw [bad_some ht]
  have HF := Lib.hid (HT1.out t _ HO1.out ht)
  have hno := txn_ops HS.out ht
  have HK := Lib.hid (may_keys (txn_may ht).1 (txn_may ht).2).1
  clear ht HT0 HT1
  go_enter Tryz.func18, Tryz.ntmps18
  go_wp2_with fail
  refine (HF.out).mono ?_
  rintro e w2 ⟨A, c, ⟨rfl, hX⟩, O2⟩
  have HO2 := Lib.hid (HO1.out.trans O2)
  have HX := Lib.hid hX
  clear O2 HF hX
  go_wp2_with fail
  refine (kbad_any A _ c B t.ops w2 HX.out.row rfl hno HK.out).mono ?_
  rintro e w3 ⟨A', c', ⟨rfl, hR⟩, O3⟩
  have HO3 := Lib.hid (HO2.out.trans O3)
  have HR := Lib.hid hR
  clear O3 hR
  go_wp2
  go_ret
  exact ⟨_, _, ⟨rfl, HR.out⟩, HO3.out⟩
end Go.Proofs.YtjhomlnlmpdklaaGreatDoor

set_option linter.unusedVariables false
set_option linter.unusedSimpArgs false
namespace Go.Proofs.YtjhomlnlmpdklaaGreatDoor
open Go.RowKit
open Go.Lib hiding intOf
attribute [local go_sem ↓] Go.wp_at_zero Go.wp_at_succ
set_option maxRecDepth 10000 in
set_option maxHeartbeats 4000000 in
theorem iown_any (A0 A1 A2 : Option Addr) (n0 n1 n2 c0 c1 c2 B : Nat) (h : Hst) (a b : Int) (w : World) (hg : HIn w B A0 A1 A2 n0 n1 n2 h) :
  Calls Tryz.prog 10 #[hval A0 A1 A2 n0 n1 n2 c0 c1 c2, .agg #[.int .i64 a, .int .i64 b]] w fun e w' => e = .returned (optT (ownO h a b)) ∧ Only [] w w' := by
 have HT0 := Lib.hid (fun w' (O : Only [] w w') => txn_no A0 A1 A2 n0 n1 n2 c0 c1 c2 B h a w' (hg.same O))
 have HT1 := Lib.hid (fun t w' (O : Only [] w w') => txn_yes A0 A1 A2 n0 n1 n2 c0 c1 c2 B h a t w' (hg.same O))
 have HS := Lib.hid hg.sm
 unfold hval at HT0 HT1 ⊢
 clear hg
 have HO1 : Hid (Only [] w (((w.alloc (.cells #[.slice A0 n0 c0, .slice A1 n1 c1, .slice A2 n2 c2] 25)).alloc (.cells #[.int .i64 a, .int .i64 b] 27)).alloc (.cells #[.int .i64 0, .int .i64 0] 30))) := Lib.hid ((((Only.refl [] w).alloc _).alloc _).alloc _)
 have HP1 : Hid (Blk (((w.alloc (.cells #[.slice A0 n0 c0, .slice A1 n1 c1, .slice A2 n2 c2] 25)).alloc (.cells #[.int .i64 a, .int .i64 b] 27)).alloc (.cells #[.int .i64 0, .int .i64 0] 30)) (w.heap.size + 1) 27 #[.int .i64 a, .int .i64 b]) := Lib.hid (by
  have := Blk.made (w.alloc (.cells #[.slice A0 n0 c0, .slice A1 n1 c1, .slice A2 n2 c2] 25)) 27 #[.int .i64 a, .int .i64 b]
  rw [World.size_alloc] at this
  exact this.alloc _)
 have HR1 : Hid (Blk (((w.alloc (.cells #[.slice A0 n0 c0, .slice A1 n1 c1, .slice A2 n2 c2] 25)).alloc (.cells #[.int .i64 a, .int .i64 b] 27)).alloc (.cells #[.int .i64 0, .int .i64 0] 30)) (w.heap.size + 1 + 1) 30 #[.int .i64 0, .int .i64 0]) := Lib.hid (by
  have := Blk.made ((w.alloc (.cells #[.slice A0 n0 c0, .slice A1 n1 c1, .slice A2 n2 c2] 25)).alloc (.cells #[.int .i64 a, .int .i64 b] 27)) 30 #[.int .i64 0, .int .i64 0]
  simpa only [World.size_alloc] using this)
 cases ht : txAtH h a with
 | none =>
  rw [own_none (opAt_none ht)]
  have HF := Lib.hid (HT0.out _ HO1.out ht)
  clear ht HT0 HT1
  go_enter Tryz.func10, Tryz.ntmps10
  go_wp2_with fail
  generalize (((w.alloc (.cells #[.slice A0 n0 c0, .slice A1 n1 c1, .slice A2 n2 c2] 25)).alloc (.cells #[.int .i64 a, .int .i64 b] 27)).alloc (.cells #[.int .i64 0, .int .i64 0] 30)) = w1 at *
  generalize hgr : w.heap.size + 1 + 1 = gr at *
  generalize hgp : w.heap.size + 1 = gp at *
  have lP := HP1.out.lt
  have p0 := HP1.out.at_ 0
  have p1 := HP1.out.at_ 1
  simp at p0 p1
  refine (HF.out).mono ?_
  rintro e w2 ⟨rfl, O2⟩
  have HO2 := Lib.hid (HO1.out.trans O2)
  have HR2 := Lib.hid (O2.blk HR1.out (by simp))
  have HP2 := Lib.hid (O2.blk HP1.out (by simp))
  clear O2 HF p0 p1 lP HP1
  have lP := HP2.out.lt
  have p0 := HP2.out.at_ 0
  have p1 := HP2.out.at_ 1
  simp at p0 p1
  go_wp2_with (refine wpList_store_blk rfl 30 (.tmp 4) (.tmp 29) rfl gr 30 _ #[.int .i64 0, .int .i64 0] rfl rfl HR2.out rfl (by kernel_rfl) (by kernel_rfl) ?_; intro w9 b9 o9; have HB9 := Lib.hid b9; have HN9 := Lib.hid o9; clear b9 o9)
  refine bodyPost_ret (results_row2 Tryz.results10 _ _ gr 30 #[.int .i64 0, .int .i64 0] _ rfl HB9.out Tryz.underlying30 rfl (by kernel_rfl)) rfl ?_
  exact ⟨rfl, HO2.out.step HN9.out (fun i hi hl => by simp at hi; omega)⟩
 | some t =>
  have HF := Lib.hid (HT1.out t _ HO1.out ht)
  have hno := txn_ops HS.out ht
  clear HT0 HT1
  by_cases h1 : b < 0
  ·rw [own_none (opAt_neg h1)]
   have d1 : decide (b < 0) = true := decide_eq_true (by omega)
   clear ht h1
   go_enter Tryz.func10, Tryz.ntmps10
   go_wp2_with fail
   generalize (((w.alloc (.cells #[.slice A0 n0 c0, .slice A1 n1 c1, .slice A2 n2 c2] 25)).alloc (.cells #[.int .i64 a, .int .i64 b] 27)).alloc (.cells #[.int .i64 0, .int .i64 0] 30)) = w1 at *
   generalize hgr : w.heap.size + 1 + 1 = gr at *
   generalize hgp : w.heap.size + 1 = gp at *
   have lP := HP1.out.lt
   have p0 := HP1.out.at_ 0
   have p1 := HP1.out.at_ 1
   simp at p0 p1
   refine (HF.out).mono ?_
   rintro e w2 ⟨A, c, ⟨rfl, hX⟩, O2⟩
   have HO2 := Lib.hid (HO1.out.trans O2)
   have HR2 := Lib.hid (O2.blk HR1.out (by simp))
   have HP2 := Lib.hid (O2.blk HP1.out (by simp))
   have HX := Lib.hid hX
   clear O2 HF p0 p1 lP HP1 hX
   have lP := HP2.out.lt
   have p0 := HP2.out.at_ 0
   have p1 := HP2.out.at_ 1
   simp at p0 p1
   go_wp2_with (refine wpList_store_blk rfl 30 (.tmp 4) (.tmp 29) rfl gr 30 _ #[.int .i64 0, .int .i64 0] rfl rfl HR2.out rfl (by kernel_rfl) (by kernel_rfl) ?_; intro w9 b9 o9; have HB9 := Lib.hid b9; have HN9 := Lib.hid o9; clear b9 o9)
   refine bodyPost_ret (results_row2 Tryz.results10 _ _ gr 30 #[.int .i64 0, .int .i64 0] _ rfl HB9.out Tryz.underlying30 rfl (by kernel_rfl)) rfl ?_
   exact ⟨rfl, HO2.out.step HN9.out (fun i hi hl => by simp at hi; omega)⟩
  ·have d1 : decide (b < 0) = false := decide_eq_false (by omega)
   by_cases h2 : (t.ops.length : Int) ≤ b
   ·rw [own_none (opAt_big ht h2)]
    generalize hm : t.ops.length = m at *
    have d2 : decide ((m : Int) ≤ b) = true := decide_eq_true (by omega)
    clear ht h1 h2
    go_enter Tryz.func10, Tryz.ntmps10
    go_wp2_with fail
    generalize (((w.alloc (.cells #[.slice A0 n0 c0, .slice A1 n1 c1, .slice A2 n2 c2] 25)).alloc (.cells #[.int .i64 a, .int .i64 b] 27)).alloc (.cells #[.int .i64 0, .int .i64 0] 30)) = w1 at *
    generalize hgr : w.heap.size + 1 + 1 = gr at *
    generalize hgp : w.heap.size + 1 = gp at *
    have lP := HP1.out.lt
    have p0 := HP1.out.at_ 0
    have p1 := HP1.out.at_ 1
    simp at p0 p1
    refine (HF.out).mono ?_
    rintro e w2 ⟨A, c, ⟨rfl, hX⟩, O2⟩
    have HO2 := Lib.hid (HO1.out.trans O2)
    have HR2 := Lib.hid (O2.blk HR1.out (by simp))
    have HP2 := Lib.hid (O2.blk HP1.out (by simp))
    clear O2 HF p0 p1 lP HP1 hX
    have lP := HP2.out.lt
    have p0 := HP2.out.at_ 0
    have p1 := HP2.out.at_ 1
    simp at p0 p1
    go_wp2_with (refine wpList_store_blk rfl 30 (.tmp 4) (.tmp 29) rfl gr 30 _ #[.int .i64 0, .int .i64 0] rfl rfl HR2.out rfl (by kernel_rfl) (by kernel_rfl) ?_; intro w9 b9 o9; have HB9 := Lib.hid b9; have HN9 := Lib.hid o9; clear b9 o9)
    refine bodyPost_ret (results_row2 Tryz.results10 _ _ gr 30 #[.int .i64 0, .int .i64 0] _ rfl HB9.out Tryz.underlying30 rfl (by kernel_rfl)) rfl ?_
    exact ⟨rfl, HO2.out.step HN9.out (fun i hi hl => by simp at hi; omega)⟩
   ·obtain ⟨j, rfl⟩ : ∃ j : Nat, b = j := ⟨b.toNat, by omega⟩
    obtain ⟨o, hj⟩ : ∃ o, t.ops[j]? = some o := ⟨_, List.getElem?_eq_getElem (by omega)⟩
    rw [own_some (opAt_yes ht hj)]
    have HKO := Lib.hid (fun (A : Option Addr) (c : Nat) w' (hX : TxOk w' B ⟨t, A, c⟩) => kown_any A _ c B j t.ops o w' hX.row rfl hno hX.le hX.cap hj)
    rw [show ((j : Int).toNat) = j from by simp] at *
    generalize leftW o.key (t.ops.take j) = v at *
    generalize hm : t.ops.length = m at *
    have d2 : decide ((m : Int) ≤ (j : Int)) = false := decide_eq_false (by omega)
    have d3 : decide (m ≤ j) = false := decide_eq_false (by omega)
    clear ht h1 h2 hj
    go_enter Tryz.func10, Tryz.ntmps10
    go_wp2_with fail
    generalize (((w.alloc (.cells #[.slice A0 n0 c0, .slice A1 n1 c1, .slice A2 n2 c2] 25)).alloc (.cells #[.int .i64 a, .int .i64 (j : Int)] 27)).alloc (.cells #[.int .i64 0, .int .i64 0] 30)) = w1 at *
    generalize hgr : w.heap.size + 1 + 1 = gr at *
    generalize hgp : w.heap.size + 1 = gp at *
    have lP := HP1.out.lt
    have p0 := HP1.out.at_ 0
    have p1 := HP1.out.at_ 1
    simp at p0 p1
    refine (HF.out).mono ?_
    rintro e w2 ⟨A, c, ⟨rfl, hX⟩, O2⟩
    have HO2 := Lib.hid (HO1.out.trans O2)
    have HR2 := Lib.hid (O2.blk HR1.out (by simp))
    have HP2 := Lib.hid (O2.blk HP1.out (by simp))
    have HX := Lib.hid hX
    clear O2 HF p0 p1 lP HP1 hX
    have lP := HP2.out.lt
    have p0 := HP2.out.at_ 0
    have p1 := HP2.out.at_ 1
    simp at p0 p1
    go_wp2_with fail
    refine (HKO.out A c w2 HX.out).mono ?_
    rintro e w3 ⟨rfl, O3⟩
    have HO3 := Lib.hid (HO2.out.trans O3)
    have HR3 := Lib.hid (O3.blk HR2.out (by simp))
    unfold optT optV
    clear O3
    go_wp2_with (refine wpList_store_blk rfl 30 (.tmp 4) (.tmp 34) rfl gr 30 _ #[.int .i64 (v.getD (0, 0)).1, .int .i64 (v.getD (0, 0)).2] rfl rfl HR3.out rfl (by kernel_rfl) (by kernel_rfl) ?_; intro w9 b9 o9; have HB9 := Lib.hid b9; have HN9 := Lib.hid o9; clear b9 o9)
    refine bodyPost_ret (results_row2 Tryz.results10 _ _ gr 30 #[.int .i64 (v.getD (0, 0)).1, .int .i64 (v.getD (0, 0)).2] _ rfl HB9.out Tryz.underlying30 rfl (by kernel_rfl)) rfl ?_
    exact ⟨rfl, HO3.out.step HN9.out (fun i hi hl => by simp at hi; omega)⟩
set_option maxRecDepth 10000 in
set_option maxHeartbeats 4000000 in
theorem iouter_any (A0 A1 A2 : Option Addr) (n0 n1 n2 c0 c1 c2 B : Nat) (h : Hst) (a b : Int) (w : World) (hg : HIn w B A0 A1 A2 n0 n1 n2 h) :
  Calls Tryz.prog 12 #[hval A0 A1 A2 n0 n1 n2 c0 c1 c2, .agg #[.int .i64 a, .int .i64 b]] w fun e w' => e = .returned (.bool (outerB h a b)) ∧ Only [] w w' := by
 have HT0 := Lib.hid (fun w' (O : Only [] w w') => txn_no A0 A1 A2 n0 n1 n2 c0 c1 c2 B h a w' (hg.same O))
 have HT1 := Lib.hid (fun t w' (O : Only [] w w') => txn_yes A0 A1 A2 n0 n1 n2 c0 c1 c2 B h a t w' (hg.same O))
 have HS := Lib.hid hg.sm
 unfold hval at HT0 HT1 ⊢
 clear hg
 have HO1 : Hid (Only [] w ((w.alloc (.cells #[.slice A0 n0 c0, .slice A1 n1 c1, .slice A2 n2 c2] 25)).alloc (.cells #[.int .i64 a, .int .i64 b] 27))) := Lib.hid (((Only.refl [] w).alloc _).alloc _)
 have HP1 : Hid (Blk ((w.alloc (.cells #[.slice A0 n0 c0, .slice A1 n1 c1, .slice A2 n2 c2] 25)).alloc (.cells #[.int .i64 a, .int .i64 b] 27)) (w.heap.size + 1) 27 #[.int .i64 a, .int .i64 b]) := Lib.hid (by
  have := Blk.made (w.alloc (.cells #[.slice A0 n0 c0, .slice A1 n1 c1, .slice A2 n2 c2] 25)) 27 #[.int .i64 a, .int .i64 b]
  rw [World.size_alloc] at this
  exact this)
 cases ht : txAtH h a with
 | none =>
  rw [outer_none (opAt_none ht)]
  have HF := Lib.hid (HT0.out _ HO1.out ht)
  clear ht HT0 HT1
  go_enter Tryz.func12, Tryz.ntmps12
  go_wp2_with fail
  generalize ((w.alloc (.cells #[.slice A0 n0 c0, .slice A1 n1 c1, .slice A2 n2 c2] 25)).alloc (.cells #[.int .i64 a, .int .i64 b] 27)) = w1 at *
  generalize hgp : w.heap.size + 1 = gp at *
  have lP := HP1.out.lt
  have p0 := HP1.out.at_ 0
  have p1 := HP1.out.at_ 1
  simp at p0 p1
  refine (HF.out).mono ?_
  rintro e w2 ⟨rfl, O2⟩
  have HO2 := Lib.hid (HO1.out.trans O2)
  have HP2 := Lib.hid (O2.blk HP1.out (by simp))
  clear O2 HF p0 p1 lP HP1
  have lP := HP2.out.lt
  have p0 := HP2.out.at_ 0
  have p1 := HP2.out.at_ 1
  simp at p0 p1
  go_wp2
  go_ret
  exact ⟨rfl, HO2.out⟩
 | some t =>
  have HF := Lib.hid (HT1.out t _ HO1.out ht)
  have hno := txn_ops HS.out ht
  clear HT0 HT1
  by_cases h1 : b < 0
  ·rw [outer_none (opAt_neg h1)]
   have d1 : decide (b < 0) = true := decide_eq_true (by omega)
   clear ht h1
   go_enter Tryz.func12, Tryz.ntmps12
   go_wp2_with fail
   generalize ((w.alloc (.cells #[.slice A0 n0 c0, .slice A1 n1 c1, .slice A2 n2 c2] 25)).alloc (.cells #[.int .i64 a, .int .i64 b] 27)) = w1 at *
   generalize hgp : w.heap.size + 1 = gp at *
   have lP := HP1.out.lt
   have p0 := HP1.out.at_ 0
   have p1 := HP1.out.at_ 1
   simp at p0 p1
   refine (HF.out).mono ?_
   rintro e w2 ⟨A, c, ⟨rfl, hX⟩, O2⟩
   have HO2 := Lib.hid (HO1.out.trans O2)
   have HP2 := Lib.hid (O2.blk HP1.out (by simp))
   have HX := Lib.hid hX
   clear O2 HF p0 p1 lP HP1 hX
   have lP := HP2.out.lt
   have p0 := HP2.out.at_ 0
   have p1 := HP2.out.at_ 1
   simp at p0 p1
   go_wp2
   go_ret
   exact ⟨rfl, HO2.out⟩
  ·have d1 : decide (b < 0) = false := decide_eq_false (by omega)
   by_cases h2 : (t.ops.length : Int) ≤ b
   ·rw [outer_none (opAt_big ht h2)]
    generalize hm : t.ops.length = m at *
    have d2 : decide ((m : Int) ≤ b) = true := decide_eq_true (by omega)
    clear ht h1 h2
    go_enter Tryz.func12, Tryz.ntmps12
    go_wp2_with fail
    generalize ((w.alloc (.cells #[.slice A0 n0 c0, .slice A1 n1 c1, .slice A2 n2 c2] 25)).alloc (.cells #[.int .i64 a, .int .i64 b] 27)) = w1 at *
    generalize hgp : w.heap.size + 1 = gp at *
    have lP := HP1.out.lt
    have p0 := HP1.out.at_ 0
    have p1 := HP1.out.at_ 1
    simp at p0 p1
    refine (HF.out).mono ?_
    rintro e w2 ⟨A, c, ⟨rfl, hX⟩, O2⟩
    have HO2 := Lib.hid (HO1.out.trans O2)
    have HP2 := Lib.hid (O2.blk HP1.out (by simp))
    clear O2 HF p0 p1 lP HP1 hX
    have lP := HP2.out.lt
    have p0 := HP2.out.at_ 0
    have p1 := HP2.out.at_ 1
    simp at p0 p1
    go_wp2
    go_ret
    exact ⟨rfl, HO2.out⟩
   ·obtain ⟨j, rfl⟩ : ∃ j : Nat, b = j := ⟨b.toNat, by omega⟩
    obtain ⟨o, hj⟩ : ∃ o, t.ops[j]? = some o := ⟨_, List.getElem?_eq_getElem (by omega)⟩
    rw [outer_some (opAt_yes ht hj)]
    have HKO := Lib.hid (fun (A : Option Addr) (c : Nat) w' (hX : TxOk w' B ⟨t, A, c⟩) => kown_any A _ c B j t.ops o w' hX.row rfl hno hX.le hX.cap hj)
    have HRW := Lib.hid (fun (A : Option Addr) w' (hrow : Row w' B A (opC t.ops)) => row_op hrow hj)
    rw [show ((j : Int).toNat) = j from by simp] at *
    generalize leftW o.key (t.ops.take j) = v at *
    obtain ⟨r, hr⟩ : ∃ r, r = (!o.wr && !v.isSome) := ⟨_, rfl⟩
    rw [← hr]
    have HRR := Lib.hid hr
    clear hr
    generalize hm : t.ops.length = m at *
    have d2 : decide ((m : Int) ≤ (j : Int)) = false := decide_eq_false (by omega)
    have d3 : decide (m ≤ j) = false := decide_eq_false (by omega)
    have hj0 : (0 : Int) ≤ (j : Int) := by omega
    have hjm : (j : Int) < (m : Int) := by omega
    clear ht h1 h2 hj
    go_enter Tryz.func12, Tryz.ntmps12
    go_wp2_with fail
    generalize ((w.alloc (.cells #[.slice A0 n0 c0, .slice A1 n1 c1, .slice A2 n2 c2] 25)).alloc (.cells #[.int .i64 a, .int .i64 (j : Int)] 27)) = w1 at *
    generalize hgp : w.heap.size + 1 = gp at *
    have lP := HP1.out.lt
    have p0 := HP1.out.at_ 0
    have p1 := HP1.out.at_ 1
    simp at p0 p1
    refine (HF.out).mono ?_
    rintro e w2 ⟨A, c, ⟨rfl, hX⟩, O2⟩
    have HO2 := Lib.hid (HO1.out.trans O2)
    have HP2 := Lib.hid (O2.blk HP1.out (by simp))
    have HX := Lib.hid hX
    clear O2 HF p0 p1 lP HP1 hX
    have lP := HP2.out.lt
    have p0 := HP2.out.at_ 0
    have p1 := HP2.out.at_ 1
    simp at p0 p1
    go_wp2_with fail
    refine (HKO.out A c w2 HX.out).mono ?_
    rintro e w3 ⟨rfl, O3⟩
    have HO3 := Lib.hid (HO2.out.trans O3)
    have HP3 := Lib.hid (O3.blk HP2.out (by simp))
    obtain ⟨b1, off, rfl, -, hbw, hP⟩ := HRW.out A w2 HX.out.row
    have HPO := Lib.hid (hP.only O3 hbw (by simp))
    have hbw3 : b1 < w3.heap.size := by have := O3.size; omega
    unfold optT optV
    clear O3 p0 p1 lP hP
    have lP := HP3.out.lt
    have p1 := HP3.out.at_ 1
    simp at p1
    have q0 := HPO.out.c0
    go_upto_region 5 with (fail)
    have HA3 := Lib.hid ((Only.refl [] w3).alloc (.cells #[.int .i64 (v.getD (0, 0)).1, .int .i64 (v.getD (0, 0)).2] 30))
    have HO4 := Lib.hid (HO3.out.trans HA3.out)
    have HP4 := Lib.hid (HA3.out.blk HP3.out (by simp))
    have HQ4 := Lib.hid (HPO.out.only HA3.out hbw3 (by simp))
    clear q0 p1 lP
    have hbw4 := Nat.lt_of_lt_of_le hbw3 HA3.out.size
    generalize (w3.alloc (.cells #[.int .i64 (v.getD (0, 0)).1, .int .i64 (v.getD (0, 0)).2] 30)) = w4 at *
    have lP := HP4.out.lt
    have p1 := HP4.out.at_ 1
    simp at p1
    have q0 := HQ4.out.c0
    generalize v.isSome = vb at *
    generalize o.wr = ow at *
    cases ow <;> cases vb
    all_goals
     go_wp2
     go_ret
     exact ⟨by rw [HRR.out]; rfl, HO4.out⟩
end Go.Proofs.YtjhomlnlmpdklaaGreatDoor
