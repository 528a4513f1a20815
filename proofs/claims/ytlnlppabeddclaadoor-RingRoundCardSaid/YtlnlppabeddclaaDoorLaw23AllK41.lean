/- Parts. -/
import Derived.Test.YtlnlppabeddclaaDoorLaw23AllK37
set_option maxRecDepth 10000
set_option maxHeartbeats 16000000
set_option linter.unusedVariables false
set_option linter.unusedSimpArgs false
namespace Go.Proofs.YtlnlppabeddclaaDoor
open Go.RowKit
attribute [local go_sem ↓] Go.wp_at_zero Go.wp_at_succ
theorem ints_one (q : List Int) : ∀ u ∈ q.map (Value.int .i64), u.oneCell' = true := fun u hu => by
 obtain ⟨y, -, rfl⟩ := List.mem_map.1 hu
 rfl
attribute [-go_sem] Go.run_slice_l Go.run_slice_h Go.run_slice_any Go.run_slice_lh in
theorem ringIs_walk (n0 : Int) (Ax : Option Addr) (mx cx : Nat) (zs : List Int) (A : Option Addr) (m c : Nat) (l : List (Int × Int)) (w : World)
  (hx : Row w w.heap.size Ax (zs.map (Value.int .i64))) (hxl : zs.length = mx) (hmx : mx ≤ cx) (hcx : cx ≤ maxLen) (hwf : ∀ z ∈ zs, (Lit.int .i64 z).wf = true)
  (hr : Row w w.heap.size A (edgeC l)) (hl : l.length = m) (hmc : m ≤ c) (hc : c ≤ maxLen) (hT : Tab w) (h00 : 0 < w.heap.size) :
  Calls Tryd.prog 4 #[.int .i64 n0, .slice Ax mx cx, .slice A m c] w fun e w' => e = .returned (.bool true) ∧ Only [] w w' := by
 have HWO := Hd (fun (W : World) (O : Only [] w W) => works23_any W (hT.only h00 O (by simp)) (Nat.lt_of_lt_of_le h00 O.size));have HFW := few23_any n0 A m c l w hr hl hmc hc;have HLL : (l.take (min m 25)).length = min m 25 := by rw [List.length_take, hl]; omega
 obtain ⟨M, hM⟩ : ∃ M, M = min m 25 := ⟨_, rfl⟩;have hM25 : M ≤ 25 := by omega
 rw [← hM] at HLL HFW;obtain ⟨L, hL⟩ : ∃ L, L = l.take M := ⟨_, rfl⟩;rw [← hL] at HLL HFW;obtain ⟨N, hN⟩ : ∃ N, N = fewN n0 := ⟨_, rfl⟩;rw [← hN] at HFW;have HF := Hd HFW;have hm60 : min M 60 = M := by omega
 have htake : L.take M = L := List.take_of_length_le (by omega);have HF2 := Hd (fun (W : World) (B : Option Addr) (cb : Nat) (hrow : Row W W.heap.size B (edgeC L)) (hb1 : M ≤ cb) (hb2 : cb ≤ maxLen) => by
  have := few19_any B M cb L W hrow HLL hb1 hb2;rw [hm60, htake] at this;exact this)
 have HLN := Hd HLL;obtain ⟨K, hK⟩ : ∃ K, K = min mx 30 := ⟨_, rfl⟩;have hK30 : K ≤ 30 := by omega
 have hKm : K ≤ mx := by omega
 have HXK : Hid (∀ W, Only [] w W → Row W W.heap.size Ax ((zs.take K).map (Value.int .i64))) := Hd (fun W O => by rw [List.map_take]; exact row_up ((hx.take K).only O (by simp)));have HXW : Hid (∀ z ∈ zs.take K, (Lit.int .i64 z).wf = true) := Hd (fun z hz => hwf z (List.mem_of_mem_take hz));have HXL : Hid ((zs.take K).length = K) := Hd (by rw [List.length_take, hxl]; omega);obtain ⟨X, hX⟩ : ∃ X, X = zs.take K := ⟨_, rfl⟩;rw [← hX] at HXK HXW HXL;have HSL : Hid (∀ W, (Instr.slice 25 (.slice Ax mx cx) none (some (.int .i64 (K : Int))) none).run Tryd.prog W = .ok (.slice Ax K cx) W) := Hd (fun W => islice_to Ax mx cx K (by omega) W);have HIN := Hd (fun (A1 : Option Addr) (c1 : Nat) (W : World) (h : Row W W.heap.size A1 (X.map (Value.int .i64))) => ints_any A1 K c1 (X.map (Value.int .i64)) W h (by rw [List.length_map]; exact HXL.out) (ints_one X) (by omega));have HMY := Hd (fun (B Bx : Option Addr) (cb cb2 : Nat) (W : World) (h1 : Row W W.heap.size B (edgeC L)) (h2 : Row W W.heap.size Bx (X.map (Value.int .i64))) => risA_any N B Bx M cb K cb2 L X W h1 HLN.out (by omega) h2 HXL.out (by omega) HXW.out);have HMR := Hd (fun (B Bx : Option Addr) (cb cb2 : Nat) (W : World) (h1 : Row W W.heap.size B (edgeC L)) (h2 : Row W W.heap.size Bx (X.map (Value.int .i64))) (h3 : K ≤ cb2) => risr23_any N B Bx M cb K cb2 L X W h1 HLN.out (by omega) h2 HXL.out (by omega) h3);obtain ⟨R, hR⟩ : ∃ R, R = isRing N X L := ⟨_, rfl⟩;simp only [← hR] at HMY HMR;clear hL hM HLL hr hT hN hl hmc hc hm60 htake HFW hx hxl hwf hX hR h00;have hKI : K = mx ∧ mx ≤ 30 ∨ K = 30 ∧ 30 < mx := by omega
 clear hK;go_enter Tryd.func4, Tryd.ntmps4;go_wp2_with fail
 refine (HF.out).mono ?_;rintro e w1 ⟨B, cb, ⟨rfl, hv⟩, O1⟩;obtain ⟨B', cb', he, hb1, hb2, -, hrow⟩ := own_row hv;injection he with he1 he2 he3;subst he1 he3;have HROW := Hd hrow;have HO1 := Hd O1;have HF3 := Hd (fun W (O : Only [] w1 W) => HF2.out W B cb (row_up (hrow.only O (by simp))) hb1 hb2);clear hv hrow O1 HF HF2 he2;have HCALL := Hd (HIN.out Ax cx w1 (HXK.out _ HO1.out));have hRR : (R == R) = true := by cases R <;> rfl
 rcases hKI with ⟨e1, e2⟩ | ⟨e1, e2⟩
 ·subst e1;have hsl := HSL.out;have e3 : (K : Int) ≤ 30 := by omega
  go_wp2_with fail
  refine (HCALL.out).mono ?_;rintro e w2 ⟨v2, rfl, hv2, O2⟩;obtain ⟨A2, c2, rfl, h21, h22, -, hrow2⟩ := own_row hv2;have HX2 := Hd hrow2;have HO2 := Hd O2;have HC3 := Hd (HIN.out A2 c2 w2 hrow2);clear hv2 hrow2 O2 HCALL HXK HSL hsl;go_wp2_with fail
  refine (HC3.out).mono ?_;rintro e w3 ⟨v3, rfl, hv3, O3⟩;obtain ⟨A3, c3, rfl, h31, h32, -, hrow3⟩ := own_row hv3;have HX3 := Hd hrow3;have HO3 := Hd O3;have HC4 := Hd (HF3.out w3 (HO2.out.trans O3));clear hv3 hrow3 O3 HC3 HF3;go_wp2_with fail
  refine (HC4.out).mono ?_;rintro e w4 ⟨v4, rfl, hv4, O4⟩;obtain ⟨B4, cb4, rfl, h41, h42, -, hrow4⟩ := own_row hv4;have HO4 := Hd O4;have HC5 := Hd (HMY.out B4 A3 cb4 c3 w4 hrow4 (row_up (HX3.out.only O4 (by simp))));clear hv4 hrow4 O4 HC4 HX3;go_wp2_with fail
  refine (HC5.out).mono ?_;rintro e w5 ⟨rfl, O5⟩;have HO15 := Hd (((HO2.out.trans HO3.out).trans HO4.out).trans O5);have HC6 := Hd (HMR.out B A2 cb c2 w5 (row_up (HROW.out.only HO15.out (by simp))) (row_up (HX2.out.only ((HO3.out.trans HO4.out).trans O5) (by simp))) h21);clear O5 HC5 HX2 HO2 HO3 HO4 HROW;go_wp2_with fail
  refine (HC6.out).mono ?_;rintro e w6 ⟨rfl, O6⟩;have HO6 := Hd (HO1.out.trans (HO15.out.trans O6));have HW6 := Hd (HWO.out _ HO6.out);clear O6 HC6 HWO HO15 HO1;go_wp2_with fail
  refine (HW6.out).mono ?_;rintro e w7 ⟨rfl, O7⟩;have HO7 := Hd (HO6.out.trans O7);clear O7;go_wp2
  go_ret
  exact ⟨rfl, HO7.out⟩
 ·subst e1;have hsl : ∀ W, (Instr.slice 25 (.slice Ax mx cx) none (some (.int .i64 30)) none).run Tryd.prog W = .ok (.slice Ax 30 cx) W := HSL.out;have e3 : (30 : Int) < (mx : Int) := by omega
  go_wp2_with fail
  refine (HCALL.out).mono ?_;rintro e w2 ⟨v2, rfl, hv2, O2⟩;obtain ⟨A2, c2, rfl, h21, h22, -, hrow2⟩ := own_row hv2;have HX2 := Hd hrow2;have HO2 := Hd O2;have HC3 := Hd (HIN.out A2 c2 w2 hrow2);clear hv2 hrow2 O2 HCALL HXK HSL hsl;go_wp2_with fail
  refine (HC3.out).mono ?_;rintro e w3 ⟨v3, rfl, hv3, O3⟩;obtain ⟨A3, c3, rfl, h31, h32, -, hrow3⟩ := own_row hv3;have HX3 := Hd hrow3;have HO3 := Hd O3;have HC4 := Hd (HF3.out w3 (HO2.out.trans O3));clear hv3 hrow3 O3 HC3 HF3;go_wp2_with fail
  refine (HC4.out).mono ?_;rintro e w4 ⟨v4, rfl, hv4, O4⟩;obtain ⟨B4, cb4, rfl, h41, h42, -, hrow4⟩ := own_row hv4;have HO4 := Hd O4;have HC5 := Hd (HMY.out B4 A3 cb4 c3 w4 hrow4 (row_up (HX3.out.only O4 (by simp))));clear hv4 hrow4 O4 HC4 HX3;go_wp2_with fail
  refine (HC5.out).mono ?_;rintro e w5 ⟨rfl, O5⟩;have HO15 := Hd (((HO2.out.trans HO3.out).trans HO4.out).trans O5);have HC6 := Hd (HMR.out B A2 cb c2 w5 (row_up (HROW.out.only HO15.out (by simp))) (row_up (HX2.out.only ((HO3.out.trans HO4.out).trans O5) (by simp))) h21);clear O5 HC5 HX2 HO2 HO3 HO4 HROW;go_wp2_with fail
  refine (HC6.out).mono ?_;rintro e w6 ⟨rfl, O6⟩;have HO6 := Hd (HO1.out.trans (HO15.out.trans O6));have HW6 := Hd (HWO.out _ HO6.out);clear O6 HC6 HWO HO15 HO1;go_wp2_with fail
  refine (HW6.out).mono ?_;rintro e w7 ⟨rfl, O7⟩;have HO7 := Hd (HO6.out.trans O7);clear O7;go_wp2
  go_ret
  exact ⟨rfl, HO7.out⟩
end Go.Proofs.YtlnlppabeddclaaDoor
