/- Parts. -/
import Derived.Test.YtlnlppabeddclaaDoorLaw23AllK45
import Derived.Test.YtlnlppabeddclaaDoorLaw23AllK47
set_option maxRecDepth 10000
set_option maxHeartbeats 16000000
set_option linter.unusedVariables false
set_option linter.unusedSimpArgs false
namespace Go.Proofs.YtlnlppabeddclaaDoor
open Go.RowKit
attribute [local go_sem ↓] Go.wp_at_zero Go.wp_at_succ
theorem tl_yes {q : Nat} {l : List (Int × Int)} (h : mayL (q : Int) l = true) : leastR (q : Int) l = (match leastT q l with
 | some S => (S, 0)
 | none => ([], 3)) := by unfold leastR; rw [h, if_pos rfl, Int.toNat_natCast]; cases leastT q l <;> rfl
theorem on_lt {E : Nat → Nat → Bool} {n : Nat} : ∀ (k : Nat) {hd r : List Nat}, onT E n k hd = some r → (∀ y ∈ hd, y < n) → ∀ y ∈ r, y < n
 | 0, hd, r, h, hl => by
  unfold onT at h
  split at h
  ·cases h; exact hl
  ·cases h
 | k + 1, hd, r, h, hl => by
  unfold onT at h;obtain ⟨b, hbn, hb⟩ := List.exists_of_findSome?_eq_some h
  split at hb
  ·refine on_lt k hb fun y hy => ?_;rcases List.mem_append.1 hy with h1 | h1
   ·exact hl y h1
   ·rw [List.mem_singleton.1 h1]; exact List.mem_range.1 hbn
  ·cases hb
theorem ringRound_walk (n0 : Int) (A : Option Addr) (m c : Nat) (l : List (Int × Int)) (w : World)
  (hr : Row w w.heap.size A (edgeC l)) (hl : l.length = m) (hmc : m ≤ c) (hc : c ≤ maxLen) (hT : Tab w) (h00 : 0 < w.heap.size) :
  Calls Tryd.prog 5 #[.int .i64 n0, .slice A m c] w fun e w' => e = .returned (.bool true) ∧ Only [] w w' := by
 have HWO := Hd (works23_any w hT h00);have HSM := Hd (fun (W : World) => small19_any n0 W);have HFE := Hd (fun (W : World) (O : Only [] w W) => few19_any A m c l W (row_up (hr.only O (by simp))) hl hmc hc);have HLL : (l.take (min m 60)).length = min m 60 := by rw [List.length_take, hl]; omega
 have HT := Hd (fun (W : World) (O : Only [] w W) => aI (hT.only h00 O (by simp)) (Nat.lt_of_lt_of_le h00 O.size));obtain ⟨M, hM⟩ : ∃ M, M = min m 60 := ⟨_, rfl⟩;have hM60 : M ≤ 60 := by omega
 rw [← hM] at HLL;simp only [← hM] at HFE;obtain ⟨L, hL⟩ : ∃ L, L = l.take M := ⟨_, rfl⟩;rw [← hL] at HLL;simp only [← hL] at HFE;have HLN := Hd HLL;obtain ⟨N, hN⟩ : ∃ N, N = smallN n0 := ⟨_, rfl⟩;rw [← hN] at HSM;clear hL hM HLL hr hT hN hl hmc hc;go_enter Tryd.func5, Tryd.ntmps5;go_wp2_with fail
 refine (HWO.out).mono ?_;rintro e w0 ⟨rfl, O0⟩;have HO0 := Hd O0;clear O0 HWO;go_wp2_with fail
 refine (HSM.out w0).mono ?_;rintro e w1 ⟨rfl, rfl⟩;go_wp2_with fail
 refine (HFE.out _ HO0.out).mono ?_;rintro e w3 ⟨v, rfl, hv, O2⟩;obtain ⟨B, cb, rfl, hb1, hb2, -, hrow⟩ := own_row hv;have HROW := Hd hrow;have HO3 := Hd (HO0.out.trans O2);have HLE := Hd (rleastA_any N B M cb L w3 hrow HLN.out (by omega) (HT.out _ HO3.out).1 (HT.out _ HO3.out).2);have HMYF := Hd (fun (W : World) (O : Only [] w3 W) => rmay19_any N B M cb L W (row_up (HROW.out.only O (by simp))) HLN.out (by omega));have HTL := Hd (fun (W : World) (O : Only [] w3 W) => tleast_any N B M cb L W (row_up (HROW.out.only O (by simp))) HLN.out (by omega) (HT.out _ (HO3.out.trans O)).1 (HT.out _ (HO3.out.trans O)).2);clear hv hrow O2 HFE HSM HO0 HT
 cases hmy : mayL N L with
 | false =>
  rw [leastQ_no hmy] at HLE;rw [hmy] at HMYF;dsimp only at HLE;clear hmy HTL;go_wp2_with fail
  refine (HLE.out).mono ?_;rintro e w4 ⟨A4, c4, ⟨rfl, hv⟩, O4⟩;have HO4 := Hd (HO3.out.trans O4);have HMY := Hd (HMYF.out _ O4);clear hv O4 HLE HMYF;go_wp2_with fail
  refine (HMY.out).mono ?_;rintro e w5 ⟨rfl, rfl⟩;go_wp2
  go_ret
  exact ⟨rfl, HO4.out⟩
 | true =>
  obtain ⟨q, rfl, hq, wf, hg⟩ := may_wf hmy;rw [leastQ_yes hmy] at HLE;rw [tl_yes hmy] at HTL;have HRT := Hd (fun (W : World) (O : Only [] w3 W) => rround_any q B M cb w3.heap.size L W (HROW.out.only O (by simp)) HLN.out (by omega) hq wf);have hlr := least_round wf;have hrr := ring_round wf;have HIQ := Hd (fun r (h : ringL (edB L) q = some r) => ring_is hmy h);have HRQ := Hd (fun r (h : ringL (edB L) q = some r) => isRing_len (ring_is hmy h));have HWQ : Hid (∀ r, ringL (edB L) q = some r → ∀ x ∈ r.map fun y : Nat => (y : Int), (Lit.int .i64 x).wf = true) := Hd (fun r h x hx => by
   obtain ⟨mm, a, -, ha, ho⟩ := ring_on h;obtain ⟨y, hy, rfl⟩ := List.mem_map.1 hx;have := on_lt mm ho (fun z hz => by rw [List.mem_singleton.1 hz]; exact ha) y hy;exact WalkArith.wf_i64 (by omega))
  have HIA := Hd (fun (Az : Option Addr) (cz mz : Nat) (xs : List Int) (h1 : xs.length = mz) (h2 : mz ≤ 1000) (h3 : ∀ x ∈ xs, (Lit.int .i64 x).wf = true) (W : World) (O : Only [] w3 W) (hz : Row W W.heap.size Az (xs.map (Value.int .i64))) => risA_any (q : Int) B Az M cb mz cz L xs W (row_up (HROW.out.only O (by simp))) HLN.out (by omega) hz h1 h2 h3);obtain ⟨R, hR⟩ : ∃ R, R = ringL (edB L) q := ⟨_, rfl⟩;simp only [← hR] at HLE HIQ HRQ HWQ hrr;obtain ⟨rb, hrb⟩ : ∃ rb, rb = roundB q L := ⟨_, rfl⟩;simp only [← hrb] at HRT hlr hrr;obtain ⟨T, hTT⟩ : ∃ T, T = leastT q L := ⟨_, rfl⟩;simp only [← hTT] at HTL hlr;clear hmy wf hg HROW HMYF hR hrb hTT
  cases R with
  | none =>
   have hg0 : (none : Option (List Nat)).getD [] = [] := rfl;have hs0 : (if (none : Option (List Nat)).isSome = true then (0 : Int) else 3) = 3 := rfl;simp only [hg0, hs0, List.length_nil] at HLE;obtain rfl : rb = false := hrr.symm
   cases T with
   | none => cases hlr
   | some S =>
   dsimp only at HTL;clear hg0 hs0 HIQ HRQ HWQ HIA hrr hlr;go_wp2_with fail
   refine (HLE.out).mono ?_;rintro e w4 ⟨A4, c4, ⟨rfl, hv⟩, O4⟩;have HO4 := Hd O4;have HT4 := Hd (HTL.out _ O4);clear hv O4 HLE HTL;go_wp2_with fail
   refine (HT4.out).mono ?_;rintro e w5 ⟨A5, c5, ⟨rfl, -⟩, O5⟩;have HO5 := Hd (HO4.out.trans O5);have HR5 := Hd (HRT.out _ HO5.out);clear O5 HT4 HRT HO4;go_wp2_with fail
   refine (HR5.out).mono ?_;rintro e w6 ⟨rfl, O6⟩;have HO6 := Hd (HO3.out.trans (HO5.out.trans O6));clear O6;go_wp2
   go_ret
   exact ⟨rfl, HO6.out⟩
  | some r =>
   have hg0 : (some r : Option (List Nat)).getD [] = r := rfl;have hs0 : (if (some r : Option (List Nat)).isSome = true then (0 : Int) else 3) = 0 := rfl;simp only [hg0, hs0] at HLE;obtain rfl : rb = true := hrr.symm
   cases T with
   | some S => cases hlr
   | none =>
   have hrq := HRQ.out r rfl;rw [List.length_map] at hrq;have HIB := Hd (fun Az cz W => HIA.out Az cz r.length (r.map fun y : Nat => (y : Int)) (by simp) (by omega) (HWQ.out r rfl) W);rw [HIQ.out r rfl] at HIB;dsimp only at HTL;clear hg0 hs0 HIQ HRQ HWQ HIA hrr hlr;go_wp2_with fail
   refine (HLE.out).mono ?_;rintro e w4 ⟨A4, c4, ⟨rfl, hv⟩, O4⟩;have HO4 := Hd O4;have HT4 := Hd (HTL.out _ O4);have HX4 := Hd (row_of_own hv);clear hv O4 HLE HTL;go_wp2_with fail
   refine (HT4.out).mono ?_;rintro e w5 ⟨A5, c5, ⟨rfl, -⟩, O5⟩;have HO5 := Hd (HO4.out.trans O5);have HX5 := Hd (row_up (HX4.out.only O5 (by simp)));have HR5 := Hd (HRT.out _ HO5.out);clear O5 HT4 HRT HO4 HX4;go_wp2_with fail
   refine (HR5.out).mono ?_;rintro e w6 ⟨rfl, O6⟩;have HO6 := Hd (HO5.out.trans O6);have HI6 := Hd (HIB.out A4 c4 w6 HO6.out (by rw [← intsQ_map]; exact row_up (HX5.out.only O6 (by simp))));clear O6 HR5 HO5 HIB HX5;go_wp2_with fail
   refine (HI6.out).mono ?_;rintro e w7 ⟨rfl, O7⟩;have HO7 := Hd (HO3.out.trans (HO6.out.trans O7));clear O7;go_wp2
   go_ret
   exact ⟨rfl, HO7.out⟩
end Go.Proofs.YtlnlppabeddclaaDoor
