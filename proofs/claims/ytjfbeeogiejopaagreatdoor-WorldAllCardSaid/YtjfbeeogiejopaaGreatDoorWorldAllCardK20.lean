/- Parts. -/
import Derived.Test.YtjfbeeogiejopaaGreatDoorWorldAllCardK19
import Derived.Test.YtjfbeeogiejopaaGreatDoorWorldAllCardK4
import Derived.Test.YtjfbeeogiejopaaGreatDoorWorldAllCardK6
set_option maxRecDepth 10000
set_option maxHeartbeats 16000000
set_option linter.unusedVariables false
set_option linter.unusedSimpArgs false
namespace Go.Proofs.YtjfbeeogiejopaaGreatDoor
open Go.RowKit
def ifc (t n : Int) : Value :=
 if t = 0 then .nilIface else if t = 1 then .iface 2 (.int .i64 n) else if t = 2 then .iface 211 (.agg #[]) else if t = 3 then .iface 3 (.int .i64 n) else .iface 9 (.string ⟨#[120]⟩)
def bK (t : Int) : Int := if t = 1 then 1 else if t = 2 then 2 else 0
def bN (t n : Int) : Int := if t = 1 then n else 0
def bE (t : Int) : Int := if t = 0 ∨ t = 1 ∨ t = 2 then 0 else 15
theorem ta_i (n : Int) (w : World) : (Instr.typeAssert (.iface 2 (.int .i64 n)) 20 2 true).run Tryz.prog w = .ok (.tuple #[.int .i64 n, .bool true]) w := by kernel_rfl
theorem ta_il (v : Value) (w : World) : (Instr.typeAssert (.iface 211 v) 20 2 true).run Tryz.prog w = .ok (.tuple #[.int .i64 0, .bool false]) w := by kernel_rfl
theorem ta_ii (v : Value) (w : World) : (Instr.typeAssert (.iface 3 v) 20 2 true).run Tryz.prog w = .ok (.tuple #[.int .i64 0, .bool false]) w := by kernel_rfl
theorem ta_is (v : Value) (w : World) : (Instr.typeAssert (.iface 9 v) 20 2 true).run Tryz.prog w = .ok (.tuple #[.int .i64 0, .bool false]) w := by kernel_rfl
theorem ta_ll (w : World) : (Instr.typeAssert (.iface 211 (.agg #[])) 20 211 true).run Tryz.prog w = .ok (.tuple #[.agg #[], .bool true]) w := by kernel_rfl
theorem ta_li (v : Value) (w : World) : (Instr.typeAssert (.iface 3 v) 20 211 true).run Tryz.prog w = .ok (.tuple #[.agg #[], .bool false]) w := by kernel_rfl
theorem ta_ls (v : Value) (w : World) : (Instr.typeAssert (.iface 9 v) 20 211 true).run Tryz.prog w = .ok (.tuple #[.agg #[], .bool false]) w := by kernel_rfl
theorem back_0 (w : World) : Calls Tryz.prog 169 #[.nilIface] w fun e w' => e = .returned (.tuple #[.agg #[.int .i64 0, .int .i64 0], .int .i64 0]) ∧ ExV w w' := by
 go_enter Tryz.func169, Tryz.ntmps169;go_wp2
 exact bodyPost_ret (v := .tuple #[.agg #[.int .i64 0, .int .i64 0], .int .i64 0]) (by simp [results, Tryz.results169, go_sem]) rfl ⟨rfl, (ExV.refl _).alloc _⟩
theorem back_1 (n : Int) (w : World) : Calls Tryz.prog 169 #[.iface 2 (.int .i64 n)] w fun e w' => e = .returned (.tuple #[.agg #[.int .i64 1, .int .i64 n], .int .i64 0]) ∧ ExV w w' := by
 have h1 := ta_i n;go_enter Tryz.func169, Tryz.ntmps169;go_wp2
 exact bodyPost_ret (v := .tuple #[.agg #[.int .i64 1, .int .i64 n], .int .i64 0]) (by simp [results, Tryz.results169, go_sem]) rfl ⟨rfl, (ExV.refl _).alloc _⟩
theorem back_2 (w : World) : Calls Tryz.prog 169 #[.iface 211 (.agg #[])] w fun e w' => e = .returned (.tuple #[.agg #[.int .i64 2, .int .i64 0], .int .i64 0]) ∧ ExV w w' := by
 have h1 := ta_il (.agg #[]);have h2 := ta_ll;go_enter Tryz.func169, Tryz.ntmps169;go_wp2
 exact bodyPost_ret (v := .tuple #[.agg #[.int .i64 2, .int .i64 0], .int .i64 0]) (by simp [results, Tryz.results169, go_sem]) rfl ⟨rfl, ((ExV.refl _).alloc _).alloc _⟩
theorem back_3 (n : Int) (w : World) : Calls Tryz.prog 169 #[.iface 3 (.int .i64 n)] w fun e w' => e = .returned (.tuple #[.agg #[.int .i64 0, .int .i64 0], .int .i64 15]) ∧ ExV w w' := by
 have h1 := ta_ii (.int .i64 n);have h2 := ta_li (.int .i64 n);go_enter Tryz.func169, Tryz.ntmps169;go_wp2
 exact bodyPost_ret (v := .tuple #[.agg #[.int .i64 0, .int .i64 0], .int .i64 15]) (by simp [results, Tryz.results169, go_sem]) rfl ⟨rfl, (ExV.refl _).alloc _⟩
theorem back_4 (s : ByteArray) (w : World) : Calls Tryz.prog 169 #[.iface 9 (.string s)] w fun e w' => e = .returned (.tuple #[.agg #[.int .i64 0, .int .i64 0], .int .i64 15]) ∧ ExV w w' := by
 have h1 := ta_is (.string s);have h2 := ta_ls (.string s);go_enter Tryz.func169, Tryz.ntmps169;go_wp2
 exact bodyPost_ret (v := .tuple #[.agg #[.int .i64 0, .int .i64 0], .int .i64 15]) (by simp [results, Tryz.results169, go_sem]) rfl ⟨rfl, (ExV.refl _).alloc _⟩
theorem back_any (t n : Int) (w : World) : Calls Tryz.prog 169 #[ifc t n] w fun e w' => e = .returned (.tuple #[.agg #[.int .i64 (bK t), .int .i64 (bN t n)], .int .i64 (bE t)]) ∧ ExV w w' := by
 unfold ifc bK bN bE
 by_cases h0 : t = 0
 ·subst h0; exact back_0 w
 ·by_cases h1 : t = 1
  ·subst h1; exact back_1 n w
  ·by_cases h2 : t = 2
   ·subst h2; exact back_2 w
   ·by_cases h3 : t = 3
    ·subst h3; exact back_3 n w
    ·simp only [h0, h1, h2, h3, if_false, or_false]; exact back_4 _ w
theorem Back_any (t n : Int) (w : World) : Calls Tryz.prog 159 #[.agg #[ifc t n]] w fun e w' => e = .returned (.tuple #[.agg #[.int .i64 (bK t), .int .i64 (bN t n)], .int .i64 (bE t)]) ∧ ExV w w' := by
 have hc := fun w => back_any t n w;generalize ifc t n = v at *;generalize bK t = k at *;generalize bN t n = m at *;generalize bE t = x at *;have HC := Hd hc;clear hc;go_enter Tryz.func159, Tryz.ntmps159;go_wp2_with fail
 refine (HC.out _).mono ?_;rintro e w1 ⟨rfl, O1⟩;have hb : Blk w1 (w.heap.size + 1) 38 #[.int .i64 0, .int .i64 0] := by
  refine O1.blk ?_ (by simp);have := Blk.made (w.alloc (.cells #[v] 185)) 38 #[.int .i64 0, .int .i64 0]
  simpa using this
 have hlt := hb.lt;have c0 := hb.at_ 0;have c1 := hb.at_ 1;have f0 := hb.free 0;have f1 := hb.free 1;have HO := Hd O1;simp at c0 c1;clear hb O1;go_wp2
 exact bodyPost_ret (v := .tuple #[.agg #[.int .i64 k, .int .i64 m], .int .i64 x]) (by simp [results, Tryz.results159, go_sem, c0, c1]) rfl ⟨rfl, ((((ExV.refl _).alloc _).alloc _).trans HO.out).put (by simp) _ |>.put (by simp) _⟩
def oT (k : Int) : Int := if k = 1 then 1 else if k = 2 then 2 else 0
theorem Of_any (k n : Int) (w : World) : Calls Tryz.prog 138 #[.agg #[.int .i64 k, .int .i64 n]] w fun e w' => e = .returned (.agg #[ifc (oT k) n]) ∧ ExV w w' := by
 unfold oT ifc
 by_cases h1 : k = 1
 ·subst h1;go_enter Tryz.func138, Tryz.ntmps138;go_wp2
  exact bodyPost_ret (v := .agg #[.iface 2 (.int .i64 n)]) (by simp [results, Tryz.results138, go_sem]) rfl ⟨rfl, ((ExV.refl _).alloc _).alloc _⟩
 ·by_cases h2 : k = 2
  ·subst h2;go_enter Tryz.func138, Tryz.ntmps138;go_wp2
   exact bodyPost_ret (v := .agg #[.iface 211 (.agg #[])]) (by simp [results, Tryz.results138, go_sem]) rfl ⟨rfl, ((ExV.refl _).alloc _).alloc _⟩
  ·simp only [h1, h2, if_false, if_true];have h1' : (k == 1) = false := by simp [h1]
   have h2' : (k == 2) = false := by simp [h2]
   clear h1 h2;go_enter Tryz.func138, Tryz.ntmps138;go_wp2
   exact bodyPost_ret (v := .agg #[.nilIface]) (by simp [results, Tryz.results138, go_sem]) rfl ⟨rfl, ((ExV.refl _).alloc _).alloc _⟩
theorem rank_any (k : Int) (w : World) (h0 : 0 ≤ k) (h2 : k ≤ 2) : Calls Tryz.prog 160 #[.int .i64 k] w fun e w' => e = .returned (.int .i64 k) ∧ w = w' := by
 by_cases h : k = 0
 ·subst h;go_enter Tryz.func160, Tryz.ntmps160;go_wp2
  go_ret
  exact ⟨rfl, rfl⟩
 ·by_cases h1 : k = 1
  ·subst h1;go_enter Tryz.func160, Tryz.ntmps160;go_wp2
   go_ret
   exact ⟨rfl, rfl⟩
  ·obtain rfl : k = 2 := by omega
   go_enter Tryz.func160, Tryz.ntmps160;go_wp2
   go_ret
   exact ⟨rfl, rfl⟩
def lessBV (k m k' m' : Int) : Bool := if k = k' then decide (k = 1 ∧ m < m') else decide (k < k')
def cK (k : Int) : Int := if k = 1 then 1 else if k = 2 then 2 else 0
def cN (k n : Int) : Int := if k = 1 then n else 0
theorem made2 (w : World) (t : TypeId) (a b : Int) : Blk (w.alloc (.cells #[.int .i64 a, .int .i64 b] t)) w.heap.size t #[.int .i64 a, .int .i64 b] := Blk.made _ _ _
theorem ret_bool' {a b : Bool} (h : a = b) : Ending.returned (.bool a) = .returned (.bool b) := by rw [h]
theorem bKN_bd (t n : Int) : 0 ≤ bK t ∧ bK t ≤ 2 ∧ (bK t ≠ 1 → bN t n = 0) := by
 unfold bK bN
 by_cases h1 : t = 1
 ·simp [h1]
 ·by_cases h2 : t = 2 <;> simp [h1, h2]
theorem quiet_left {P : Program} {f : FuncId} {args : Array Value} {w : World} {n : Nat} {v : Value}
  (h : Calls P f args (w.drewN n) fun e w' => e = .returned v ∧ w.drewN n = w') : Calls P f args (w.drewN n) fun e w'' => e = .returned v ∧ ∃ m, w'' = w.drewN m :=
 h.mono fun _ _ ⟨he, hm⟩ => ⟨he, n, hm.symm⟩
theorem Less_any (t n t' n' : Int) (w : World) : Calls Tryz.prog 137 #[.agg #[ifc t n], .agg #[ifc t' n']] w fun e w' => e = .returned (.bool (decide (bE t = 0) && decide (bE t' = 0) && lessBV (bK t) (bN t n) (bK t') (bN t' n'))) ∧ ExV w w' := by
 have hc := fun w => Back_any t n w;have hd := fun w => Back_any t' n' w;obtain ⟨hk1, hk2, hm⟩ : 0 ≤ bK t ∧ bK t ≤ 2 ∧ (bK t ≠ 1 → bN t n = 0) := bKN_bd _ _;obtain ⟨hk1', hk2', hm'⟩ : 0 ≤ bK t' ∧ bK t' ≤ 2 ∧ (bK t' ≠ 1 → bN t' n' = 0) := bKN_bd _ _;have HM := Hd hm;have HM' := Hd hm';clear hm hm';generalize ifc t n = v at *;generalize bK t = k at *;generalize bN t n = m at *;generalize bE t = x at *;generalize ifc t' n' = v' at *;generalize bK t' = k' at *;generalize bN t' n' = m' at *;generalize bE t' = x' at *;have HC := Hd hc;have HD := Hd hd;clear hc hd;go_enter Tryz.func137, Tryz.ntmps137;go_wp2_with fail
 refine (HC.out _).mono ?_;rintro e w1 ⟨rfl, O1⟩;have b1 : Blk w1 (w.heap.size + 1) 185 #[v'] := by
  refine O1.blk ?_ (by simp);have := Blk.made (w.alloc (.cells #[v] 185)) 185 #[v']
  simpa using this
 have c1 := b1.at_ 0;have l1 := b1.lt;have HO := Hd (((ExV.refl w).alloc (.cells #[v] 185)).alloc (.cells #[v'] 185) |>.trans O1);simp at c1;clear b1 O1;go_wp2_with fail
 refine (HD.out _).mono ?_;rintro e w2 ⟨rfl, O2⟩;have b2 : Blk w2 w1.heap.size 38 #[.int .i64 k, .int .i64 m] := O2.blk (made2 _ _ _ _) (by simp);have HP := Hd (((HO.out.alloc (.cells #[.int .i64 k, .int .i64 m] 38))).trans O2);have l2 := b2.lt;have c20 := b2.at_ 0;have c21 := b2.at_ 1;simp at c20 c21;clear b2 O2 c1;have hr1 := fun w => rank_any k w hk1 hk2;have hr2 := fun w => rank_any k' w hk1' hk2';have HR1 := Hd hr1;have HR2 := Hd hr2;clear hr1 hr2
 by_cases hx : x = 0
 ·have hx' : (x != 0) = false := by simp [hx]
  have HX := Hd hx
  by_cases hy : x' = 0
  ·have hy' : (x' != 0) = false := by simp [hy]
   have HY := Hd hy;clear hx hy
   by_cases hk : k = k'
   ·subst hk;go_wp2
    go_ret
    refine ⟨ret_bool' ?_, HP.out.alloc _⟩;rw [HX.out, HY.out];unfold lessBV
    by_cases h1 : k = 1
    ·simp [h1]
    ·simp [h1, HM.out h1, HM'.out h1]
   ·have hk' : (k != k') = true := by simp [hk]
    have HK := Hd hk;clear hk;go_wp2_with fail
    go_quiet (first | (go_at_call_of 160 (Value.int .i64 k); exact quiet_left (HR1.out _)) | (go_at_call 160; exact quiet_left (HR2.out _)))
    go_wp2
    go_ret
    refine ⟨ret_bool' ?_, (HP.out.alloc _).drewN _⟩;rw [HX.out, HY.out];unfold lessBV;rw [if_neg HK.out];simp
  ·have hy' : (x' != 0) = true := by simp [hy]
   have HY := Hd hy;clear hx hy;go_wp2
   go_ret
   refine ⟨ret_bool' ?_, HP.out.alloc _⟩;simp [HX.out, HY.out]
 ·have hx' : (x != 0) = true := by simp [hx]
  have HX := Hd hx;clear hx;go_wp2
  go_ret
  refine ⟨ret_bool' ?_, HP.out.alloc _⟩;simp [HX.out]
theorem of_words (k n : Int) : bK (oT k) = cK k ∧ bN (oT k) n = cN k n ∧ bE (oT k) = 0 := by
 unfold oT bK cK bN cN bE
 by_cases h1 : k = 1
 ·simp [h1]
 ·by_cases h2 : k = 2 <;> simp [h1, h2]
theorem may_anyV (k n : Int) (w : World) : Calls Tryz.prog 94 #[.agg #[.int .i64 k, .int .i64 n]] w fun e w' => e = .returned (.bool (mayB k n)) ∧ ExV w w' := by
 unfold mayB
 by_cases h1 : k = 1
 ·subst h1;go_enter Tryz.func94, Tryz.ntmps94;go_wp2
  go_ret
  exact ⟨by simp, (ExV.refl _).alloc _⟩
 ·have h1' : (k == 1) = false := by simp [h1]
  have H1 := Hd h1;clear h1
  by_cases h0 : k = 0
  ·subst h0;go_enter Tryz.func94, Tryz.ntmps94;go_wp2
   go_ret
   exact ⟨ret_boolv (by simp; try (rw [Bool.eq_iff_iff]; simp)), (ExV.refl _).alloc _⟩
  ·have h0' : (k == 0) = false := by simp [h0]
   have H0 := Hd h0;clear h0
   by_cases h2 : k = 2
   ·subst h2;go_enter Tryz.func94, Tryz.ntmps94;go_wp2
    go_ret
    exact ⟨ret_boolv (by simp; try (rw [Bool.eq_iff_iff]; simp)), (ExV.refl _).alloc _⟩
   ·have h2' : (k == 2) = false := by simp [h2]
    have H2 := Hd h2;clear h2;go_enter Tryz.func94, Tryz.ntmps94;go_wp2
    go_ret
    exact ⟨ret_boolv (by simp [H0.out, H1.out, H2.out]), (ExV.refl _).alloc _⟩
theorem cless_of (k n k' n' : Int) (w : World) : Calls Tryz.prog 137 #[.agg #[ifc (oT k) n], .agg #[ifc (oT k') n']] w fun e w' => e = .returned (.bool (lessBV (cK k) (cN k n) (cK k') (cN k' n'))) ∧ ExV w w' := by
 have h := Less_any (oT k) n (oT k') n' w;obtain ⟨e1, e2, e3⟩ := of_words k n;obtain ⟨f1, f2, f3⟩ := of_words k' n';rw [e1, e2, e3, f1, f2, f3] at h
 simpa using h
def lessV (a b : Int × Int) : Bool := mayB a.1 a.2 && mayB b.1 b.2 && lessBV (cK a.1) (cN a.1 a.2) (cK b.1) (cN b.1 b.2)
def cmpV (a b : Int × Int) : Int := if lessV a b = true then -1 else if lessV b a = true then 1 else 0
theorem vless_ex (a b : Int × Int) (w : World) : Calls Tryz.prog 113 #[.agg #[.int .i64 a.1, .int .i64 a.2], .agg #[.int .i64 b.1, .int .i64 b.2]] w fun e w' => e = .returned (.bool (lessV a b)) ∧ ExV w w' := by
 obtain ⟨k, n⟩ := a;obtain ⟨k', n'⟩ := b;have hma := fun w => may_anyV k n w;have hmb := fun w => may_anyV k' n' w;have hoa := fun w => Of_any k n w;have hob := fun w => Of_any k' n' w;have hl := fun w => cless_of k n k' n' w;have hr : lessV (k, n) (k', n') = (mayB k n && mayB k' n' && lessBV (cK k) (cN k n) (cK k') (cN k' n')) := rfl;rw [hr];clear hr;dsimp only;generalize mayB k n = va at *;generalize mayB k' n' = vb at *;generalize lessBV (cK k) (cN k n) (cK k') (cN k' n') = lb at *;generalize ifc (oT k) n = ca at *;generalize ifc (oT k') n' = cb at *;have HMA := Hd hma;have HMB := Hd hmb;have HOA := Hd hoa;have HOB := Hd hob;have HL := Hd hl;clear hma hmb hoa hob hl;go_enter Tryz.func113, Tryz.ntmps113;go_wp2_with fail
 have bA := (made2 w 38 k n).alloc (.cells #[.int .i64 k', .int .i64 n'] 38);have bB := made2 (w.alloc (.cells #[.int .i64 k, .int .i64 n] 38)) 38 k' n';simp only [World.size_alloc] at bB;have HP := Hd (((ExV.refl w).alloc (.cells #[.int .i64 k, .int .i64 n] 38)).alloc (.cells #[.int .i64 k', .int .i64 n'] 38));generalize (w.alloc (.cells #[.int .i64 k, .int .i64 n] 38)).alloc (.cells #[.int .i64 k', .int .i64 n'] 38) = w1 at *;have lA := bA.lt;have lB := bB.lt;have a0 := bA.at_ 0;have a1 := bA.at_ 1;have b0 := bB.at_ 0;have b1 := bB.at_ 1;simp at a0 a1 b0 b1;clear bA bB
 cases va with
 | false =>
  refine wp_region_noPanic ?_;refine wp_region_timed (F := [⟨[], [], fun w' => ExV w1 w'⟩]) (by kernel_rfl) (th1 ((ExV.refl w1).drew)) ?_;refine trd (i := 0) (v := ?_) 0 ?_ ?_;rotate_left
  ·(intro wq hSw; have hqa0 := (hSw.only.cell (p := ⟨w.heap.size, 0, none⟩) lA (by simp)).trans a0; have hqa1 := (hSw.only.cell (p := ⟨w.heap.size, 1, none⟩) lA (by simp)).trans a1; have hqb0 := (hSw.only.cell (p := ⟨w.heap.size + 1, 0, none⟩) lB (by simp)).trans b0; have hqb1 := (hSw.only.cell (p := ⟨w.heap.size + 1, 1, none⟩) lB (by simp)).trans b1; clear hSw; go_simp; try with_reducible rfl)
  (try simp only [tdz]);refine tst (i := 1) fun K hK => ?_;go_simp;refine (HMA.out _).mono ?_;rintro e wX1 ⟨rfl, OX1⟩;refine hK.out _ _ (th1 (((ExV.refl w1).drew).trans OX1)) ?_;clear hK K;(try simp only [tdz]);refine tp (i := 2) ?_;(try simp only [tdz]);refine tid (i := 3) (tid (i := 4) ?_);(try simp only [tdz]);refine tp (i := 5) ?_;(try simp only [tdz]);refine tp (i := 6) ?_;(try simp only [tdz]);refine tid (i := 7) (tid (i := 8) (tid (i := 9) (tid (i := 10) (tid (i := 11) ?_))));(try simp only [tdz]);refine tp (i := 12) ?_;(try simp only [tdz]);refine tp (i := 13) ?_;(try simp only [tdz]);refine timed_done (by kernel_rfl) ?_ _;refine NoPanic.normal ?_;go_wp2
  go_ret
  exact ⟨rfl, HP.out.trans (((ExV.refl w1).drew).trans OX1)⟩
 | true =>
  cases vb with
  | false =>
   refine wp_region_noPanic ?_;refine wp_region_timed (F := [⟨[], [], fun w' => ExV w1 w'⟩]) (by kernel_rfl) (th1 ((ExV.refl w1).drew)) ?_;refine trd (i := 0) (v := ?_) 0 ?_ ?_;rotate_left
   ·(intro wq hSw; have hqa0 := (hSw.only.cell (p := ⟨w.heap.size, 0, none⟩) lA (by simp)).trans a0; have hqa1 := (hSw.only.cell (p := ⟨w.heap.size, 1, none⟩) lA (by simp)).trans a1; have hqb0 := (hSw.only.cell (p := ⟨w.heap.size + 1, 0, none⟩) lB (by simp)).trans b0; have hqb1 := (hSw.only.cell (p := ⟨w.heap.size + 1, 1, none⟩) lB (by simp)).trans b1; clear hSw; go_simp; try with_reducible rfl)
   (try simp only [tdz]);refine tst (i := 1) fun K hK => ?_;go_simp;refine (HMA.out _).mono ?_;rintro e wX1 ⟨rfl, OX1⟩;refine hK.out _ _ (th1 (((ExV.refl w1).drew).trans OX1)) ?_;clear hK K;(try simp only [tdz]);refine tp (i := 2) ?_;(try simp only [tdz]);refine trd (i := 3) (v := ?_) 0 ?_ ?_;rotate_left
   ·(intro wq hSw; have hqa0 := (hSw.only.cell (p := ⟨w.heap.size, 0, none⟩) lA (by simp)).trans a0; have hqa1 := (hSw.only.cell (p := ⟨w.heap.size, 1, none⟩) lA (by simp)).trans a1; have hqb0 := (hSw.only.cell (p := ⟨w.heap.size + 1, 0, none⟩) lB (by simp)).trans b0; have hqb1 := (hSw.only.cell (p := ⟨w.heap.size + 1, 1, none⟩) lB (by simp)).trans b1; clear hSw; go_simp; try with_reducible rfl)
   (try simp only [tdz]);refine tst (i := 4) fun K hK => ?_;go_simp;refine (HMB.out _).mono ?_;rintro e wX2 ⟨rfl, OX2⟩;refine hK.out _ _ (th1 ((((ExV.refl w1).drew).trans OX1).trans OX2)) ?_;clear hK K;(try simp only [tdz]);refine tp (i := 5) ?_;(try simp only [tdz]);refine tp (i := 6) ?_;(try simp only [tdz]);refine tid (i := 7) (tid (i := 8) (tid (i := 9) (tid (i := 10) (tid (i := 11) ?_))));(try simp only [tdz]);refine tp (i := 12) ?_;(try simp only [tdz]);refine tp (i := 13) ?_;(try simp only [tdz]);refine timed_done (by kernel_rfl) ?_ _;refine NoPanic.normal ?_;go_wp2
   go_ret
   exact ⟨rfl, HP.out.trans ((((ExV.refl w1).drew).trans OX1).trans OX2)⟩
  | true =>
   refine wp_region_noPanic ?_;refine wp_region_timed (F := [⟨[], [], fun w' => ExV w1 w'⟩]) (by kernel_rfl) (th1 ((ExV.refl w1).drew)) ?_;refine trd (i := 0) (v := ?_) 0 ?_ ?_;rotate_left
   ·(intro wq hSw; have hqa0 := (hSw.only.cell (p := ⟨w.heap.size, 0, none⟩) lA (by simp)).trans a0; have hqa1 := (hSw.only.cell (p := ⟨w.heap.size, 1, none⟩) lA (by simp)).trans a1; have hqb0 := (hSw.only.cell (p := ⟨w.heap.size + 1, 0, none⟩) lB (by simp)).trans b0; have hqb1 := (hSw.only.cell (p := ⟨w.heap.size + 1, 1, none⟩) lB (by simp)).trans b1; clear hSw; go_simp; try with_reducible rfl)
   (try simp only [tdz]);refine tst (i := 1) fun K hK => ?_;go_simp;refine (HMA.out _).mono ?_;rintro e wX1 ⟨rfl, OX1⟩;refine hK.out _ _ (th1 (((ExV.refl w1).drew).trans OX1)) ?_;clear hK K;(try simp only [tdz]);refine tp (i := 2) ?_;(try simp only [tdz]);refine trd (i := 3) (v := ?_) 0 ?_ ?_;rotate_left
   ·(intro wq hSw; have hqa0 := (hSw.only.cell (p := ⟨w.heap.size, 0, none⟩) lA (by simp)).trans a0; have hqa1 := (hSw.only.cell (p := ⟨w.heap.size, 1, none⟩) lA (by simp)).trans a1; have hqb0 := (hSw.only.cell (p := ⟨w.heap.size + 1, 0, none⟩) lB (by simp)).trans b0; have hqb1 := (hSw.only.cell (p := ⟨w.heap.size + 1, 1, none⟩) lB (by simp)).trans b1; clear hSw; go_simp; try with_reducible rfl)
   (try simp only [tdz]);refine tst (i := 4) fun K hK => ?_;go_simp;refine (HMB.out _).mono ?_;rintro e wX2 ⟨rfl, OX2⟩;refine hK.out _ _ (th1 ((((ExV.refl w1).drew).trans OX1).trans OX2)) ?_;clear hK K;(try simp only [tdz]);refine tp (i := 5) ?_;(try simp only [tdz]);refine tp (i := 6) ?_;(try simp only [tdz]);refine trd (i := 7) (v := ?_) 0 ?_ ?_;rotate_left
   ·(intro wq hSw; have hqa0 := (hSw.only.cell (p := ⟨w.heap.size, 0, none⟩) lA (by simp)).trans a0; have hqa1 := (hSw.only.cell (p := ⟨w.heap.size, 1, none⟩) lA (by simp)).trans a1; have hqb0 := (hSw.only.cell (p := ⟨w.heap.size + 1, 0, none⟩) lB (by simp)).trans b0; have hqb1 := (hSw.only.cell (p := ⟨w.heap.size + 1, 1, none⟩) lB (by simp)).trans b1; clear hSw; go_simp; try with_reducible rfl)
   (try simp only [tdz]);refine trd (i := 9) (v := ?_) 0 ?_ ?_;rotate_left
   ·(intro wq hSw; have hqa0 := (hSw.only.cell (p := ⟨w.heap.size, 0, none⟩) lA (by simp)).trans a0; have hqa1 := (hSw.only.cell (p := ⟨w.heap.size, 1, none⟩) lA (by simp)).trans a1; have hqb0 := (hSw.only.cell (p := ⟨w.heap.size + 1, 0, none⟩) lB (by simp)).trans b0; have hqb1 := (hSw.only.cell (p := ⟨w.heap.size + 1, 1, none⟩) lB (by simp)).trans b1; clear hSw; go_simp; try with_reducible rfl)
   (try simp only [tdz]);refine tst (i := 8) fun K hK => ?_;go_simp;refine (HOA.out _).mono ?_;rintro e wX3 ⟨rfl, OX3⟩;refine hK.out _ _ (th1 (((((ExV.refl w1).drew).trans OX1).trans OX2).trans OX3)) ?_;clear hK K;(try simp only [tdz]);refine tst (i := 10) fun K hK => ?_;go_simp;refine (HOB.out _).mono ?_;rintro e wX4 ⟨rfl, OX4⟩;refine hK.out _ _ (th1 ((((((ExV.refl w1).drew).trans OX1).trans OX2).trans OX3).trans OX4)) ?_;clear hK K;(try simp only [tdz]);refine tst (i := 11) fun K hK => ?_;go_simp;refine (HL.out _).mono ?_;rintro e wX5 ⟨rfl, OX5⟩;refine hK.out _ _ (th1 (((((((ExV.refl w1).drew).trans OX1).trans OX2).trans OX3).trans OX4).trans OX5)) ?_;clear hK K;(try simp only [tdz]);refine tp (i := 12) ?_;(try simp only [tdz]);refine tp (i := 13) ?_;(try simp only [tdz]);refine timed_done (by kernel_rfl) ?_ _;refine NoPanic.normal ?_;go_wp2
   go_ret
   exact ⟨rfl, HP.out.trans (((((((ExV.refl w1).drew).trans OX1).trans OX2).trans OX3).trans OX4).trans OX5)⟩
theorem vcompare_ex (a b : Int × Int) (w : World) : Calls Tryz.prog 96 #[.agg #[.int .i64 a.1, .int .i64 a.2], .agg #[.int .i64 b.1, .int .i64 b.2]] w fun e w' => e = .returned (.int .i64 (cmpV a b)) ∧ ExV w w' := by
 have h1 := fun w => vless_ex a b w;have h2 := fun w => vless_ex b a w;unfold cmpV;generalize lessV a b = x at *;generalize lessV b a = y at *;obtain ⟨k, n⟩ := a;obtain ⟨k', n'⟩ := b;dsimp only at *;have H1 := Hd h1;have H2 := Hd h2;clear h1 h2;go_enter Tryz.func96, Tryz.ntmps96;go_wp2_with fail
 refine (H1.out _).mono ?_;rintro e w2 ⟨rfl, O2⟩;have bA := O2.blk ((made2 w 38 k n).alloc (.cells #[.int .i64 k', .int .i64 n'] 38)) (by simp);have bB := O2.blk (made2 (w.alloc (.cells #[.int .i64 k, .int .i64 n] 38)) 38 k' n') (by simp);simp only [World.size_alloc] at bB;have HP := Hd ((((ExV.refl w).alloc (.cells #[.int .i64 k, .int .i64 n] 38)).alloc (.cells #[.int .i64 k', .int .i64 n'] 38)).trans O2);have lA := bA.lt;have lB := bB.lt;have a0 := bA.at_ 0;have a1 := bA.at_ 1;have b0 := bB.at_ 0;have b1 := bB.at_ 1;simp at a0 a1 b0 b1;clear bA bB O2
 cases x with
 | true =>
  go_wp2
  go_ret
  exact ⟨rfl, HP.out⟩
 | false =>
  go_wp2_with fail
  refine (H2.out _).mono ?_;rintro e w3 ⟨rfl, O3⟩;have HQ := Hd (HP.out.trans O3);clear O3 a0 a1 b0 b1 lA lB
  cases y with
  | true =>
   go_wp2
   go_ret
   exact ⟨rfl, HQ.out⟩
  | false =>
   go_wp2
   go_ret
   exact ⟨rfl, HQ.out⟩
end Go.Proofs.YtjfbeeogiejopaaGreatDoor
