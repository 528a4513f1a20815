/- Parts. -/
import Derived.Test.YtoojabllolnhnaaDoorLaw22AllK41
set_option maxRecDepth 10000
set_option maxHeartbeats 16000000
set_option linter.unusedVariables false
set_option linter.unusedSimpArgs false
namespace Go.Proofs.YtoojabllolnhnaaDoor
open Go.RowKit
theorem ints_any (A : Option Addr) (n c : Nat) (xs : List Value) (w : World) (hr : Row w w.heap.size A xs) (hl : xs.length = n) (h1 : ∀ u ∈ xs, u.oneCell' = true) (hm : n ≤ 1000000) :
  Calls Tryd.prog 14 #[.slice A n c] w fun e w' => ∃ v, e = .returned v ∧ w'.ownsRow w.heap.size 3 1 v n xs ∧ Only [] w w' := by
 obtain ⟨i0, hi, hz0, hz1, hz2⟩ := info_parts info_int;have HR := Hd hr;have HL := Hd hl;clear hr hl;go_enter Tryd.func14, Tryd.ntmps14;go_wp2_with (at_builtin; refine wpList_append_row _ rfl (.tmp 3) (.tmp 4) _ rfl w.heap.size 3 i0 _ 1 8 Tryd.underlying25 hi hz0 hz1 hz2 rfl (by omega) (.slice (some ⟨w.heap.size, 0, none⟩) 0 0) 0 [] rfl (World.ownsRow_lit w #[] 0 (Nat.le_refl _) (by unfold maxLen; omega) rfl) w.heap.size A n c xs rfl (by rw [HL.out, Nat.mul_one]) (HR.out.only ((Only.refl [] _).alloc _) (by simp)) h1 (by unfold maxLen; omega) (by omega) (by simp) ?_; intro v w1 hown hgrow hat)
 go_ret
 refine ⟨v, rfl, by simpa using hown, ((Only.refl [] w).alloc _).step (Only.of_grown (S := [w.heap.size]) hgrow (fun g hg _ => by simp [Value.ownBlock] at hg; simp [hg])) (fun i hi hlt => by simp at hi; omega)⟩
attribute [local go_sem ↓] Go.wp_at_zero Go.wp_at_succ
theorem zslice_to (A : Option Addr) (len c m : Nat) (hm : m ≤ c) (W : World) : (Instr.slice 25 (.slice A len c) none (some (.int .i64 (m : Int))) none).run Tryd.prog W = .ok (.slice A m c) W := by
 rw [run_slice_h (P := Tryd.prog) W 25 A len c (by kernel_rfl) .i64 (m : Int) (by omega) (by omega)];have hs : (sizeOf (Tryd.prog.elem 25)).run Tryd.prog W = .ok 1 W := by kernel_rfl
 rw [hs];simp only [Result.andThen, sliced, Int.toNat_natCast, Nat.sub_zero]
 cases A <;> simp [Addr.add]
attribute [-go_sem] Go.run_slice_l Go.run_slice_h Go.run_slice_any Go.run_slice_lh in
theorem topoIs_walk (A0 : Option Addr) (m0 c0 : Nat) (zs0 : List Int) (A : Option Addr) (m c : Nat) (l : List (Int × Int)) (w : World)
  (hz : Row w w.heap.size A0 (zs0.map (Value.int .i64))) (hzl : zs0.length = m0) (hmc0 : m0 ≤ c0) (hc0 : c0 ≤ maxLen) (hr : Row w w.heap.size A (edgeC l)) (hl : l.length = m) (hmc : m ≤ c) (hc : c ≤ maxLen) (hT : Tab w) (h00 : 0 < w.heap.size) :
  Calls Tryd.prog 4 #[.slice A0 m0 c0, .slice A m c] w fun e w' => e = .returned (.bool true) ∧ Only [] w w' := by
 have HWO := Hd (fun (W : World) (O : Only [] w W) => works22_any W (hT.only h00 O (by simp)) (Nat.lt_of_lt_of_le h00 O.size));have HFE := Hd (fun (W : World) (O : Only [] w W) => few19_any A m c l W (row_up (hr.only O (by simp))) hl hmc hc);have HLL : (l.take (min m 60)).length = min m 60 := by rw [List.length_take, hl]; omega
 have HT := Hd (fun (W : World) (O : Only [] w W) => aI (hT.only h00 O (by simp)) (Nat.lt_of_lt_of_le h00 O.size));obtain ⟨M, hM⟩ : ∃ M, M = min m 60 := ⟨_, rfl⟩;have hM60 : M ≤ 60 := by omega
 rw [← hM] at HLL;simp only [← hM] at HFE;obtain ⟨L, hL⟩ : ∃ L, L = l.take M := ⟨_, rfl⟩;rw [← hL] at HLL;simp only [← hL] at HFE;have HLN := Hd HLL;have hm60 : min M 60 = M := by omega
 have htake : L.take M = L := List.take_of_length_le (by omega);have HF2 := Hd (fun (w : World) (B : Option Addr) (cb : Nat) (hrow : Row w w.heap.size B (edgeC L)) (hb1 : M ≤ cb) (hb2 : cb ≤ maxLen) => by
  have := few19_any B M cb L w hrow HLL hb1 hb2;rw [hm60, htake] at this;exact this)
 obtain ⟨k, hk⟩ : ∃ k, k = min m0 30 := ⟨_, rfl⟩;have hk30 : k ≤ 30 := by omega
 have hm1 : min (m0 : Int) 30 = (k : Int) := by omega
 have hm2 : (if (30 : Int) < (m0 : Int) then (30 : Int) else (m0 : Int)) = (k : Int) := by split <;> omega
 have hsl := fun W => zslice_to A0 m0 c0 k (by omega) W;obtain ⟨zs, hzs⟩ : ∃ zs, zs = zs0.take k := ⟨_, rfl⟩;have HZL : Hid (zs.length = k) := Hd (by rw [hzs, List.length_take, hzl]; omega);have hone : ∀ u ∈ zs.map (Value.int .i64), u.oneCell' = true := fun u hu => by
  obtain ⟨x, -, rfl⟩ := List.mem_map.1 hu
  rfl
 have HI1 := Hd (ints_any A0 k c0 (zs.map (Value.int .i64)) w (by
  rw [hzs, List.map_take];rcases hz with h1 | ⟨b, off, hA, hb, hs', hc'⟩
  ·exact .inl (by rw [h1, List.take_nil])
  ·exact .inr ⟨b, off, hA, hb, hs', fun j u hu => hc' j u (by
    rw [List.getElem?_take] at hu
    split at hu
    ·exact hu
    ·cases hu)⟩) (by rw [List.length_map]; exact HZL.out) hone (by omega))
 have HI2 := Hd (fun (W : World) (B : Option Addr) (cb : Nat) (h : Row W W.heap.size B (zs.map (Value.int .i64))) => ints_any B k cb (zs.map (Value.int .i64)) W h (by rw [List.length_map]; exact HZL.out) hone (by omega));clear hL hM HLL hr hl hmc hc hm60 htake hT hz hzl hmc0 hc0 hk hzs hone;go_enter Tryd.func4, Tryd.ntmps4;go_wp2_with fail
 refine (HI1.out).mono ?_;rintro e w1 ⟨v, rfl, hv, O1⟩;obtain ⟨D, cd, rfl, -, -, -, hrowd⟩ := own_row hv;have HD1 := Hd hrowd;have HO1 := Hd O1;clear hv hrowd O1 HI1 hsl hm1 hm2;go_wp2_with fail
 refine (HFE.out _ HO1.out).mono ?_;rintro e w2 ⟨v, rfl, hv, O2⟩;obtain ⟨B, cb, rfl, hb1, hb2, -, hrow⟩ := own_row hv;have HROW := Hd hrow;have HO2 := Hd (HO1.out.trans O2);have HD2 := Hd (HD1.out.only O2 (by simp));clear hv hrow O2 HFE HO1 HD1;go_wp2_with fail
 refine (HI2.out w2 D cd (row_up HD2.out)).mono ?_;rintro e w3 ⟨v, rfl, hv, O3⟩;obtain ⟨E3, ce, rfl, -, -, -, hrowe⟩ := own_row hv;have HO3 := Hd (HO2.out.trans O3);have HD3 := Hd (HD2.out.only O3 (by simp));have HROW3 := Hd (HROW.out.only O3 (by simp));have HE3 := Hd hrowe;clear hv hrowe O3 HO2 HD2 HROW HI2;go_wp2_with fail
 refine (HF2.out w3 B cb (row_up HROW3.out) hb1 hb2).mono ?_;rintro e w4 ⟨v, rfl, hv, O4⟩;obtain ⟨B4, c4, rfl, -, -, -, hrow4⟩ := own_row hv;have HO4 := Hd (HO3.out.trans O4);have HD4 := Hd (HD3.out.only O4 (by simp));have HROW4 := Hd (HROW3.out.only O4 (by simp));have HTI := Hd (tis_any E3 k ce _ zs B4 M c4 L w4 (HE3.out.only O4 (by simp)) HZL.out hrow4 HLN.out (by omega) (by omega));have HRI := Hd (fun (W : World) (O : Only [] w4 W) => risT_any D k cd _ zs B M cb L W (HD4.out.only O (by simp)) HZL.out (row_up (HROW4.out.only O (by simp))) HLN.out (by omega) (by omega));clear hv hrow4 O4 HO3 HD3 HROW3 HE3 HF2 HD4 HROW4;obtain ⟨r, hrr⟩ : ∃ r, r = isT zs L := ⟨_, rfl⟩;rw [← hrr] at HTI HRI;clear hrr;go_wp2_with fail
 refine (HTI.out).mono ?_;rintro e w5 ⟨rfl, O5⟩;have HO5 := Hd (HO4.out.trans O5);have HRJ := Hd (HRI.out _ O5);clear O5 HTI HRI;go_wp2_with fail
 refine (HRJ.out).mono ?_;rintro e w6 ⟨rfl, O6⟩;have HO6 := Hd (HO5.out.trans O6);have hrr : (r == r) = true := by cases r <;> rfl
 clear O6 HRJ;go_wp2_with fail
 refine (HWO.out _ HO6.out).mono ?_;rintro e w8 ⟨rfl, O8⟩;have HO8 := Hd (HO6.out.trans O8);clear O8;go_wp2
 go_ret
 exact ⟨rfl, HO8.out⟩
end Go.Proofs.YtoojabllolnhnaaDoor
