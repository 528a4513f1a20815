/- Parts. -/
import Derived.Test.YtlemjgjpglmphaaDoorPartOfCardK46
set_option maxRecDepth 10000
set_option maxHeartbeats 16000000
set_option linter.unusedVariables false
set_option linter.unusedSimpArgs false
namespace Go.Proofs.YtlemjgjpglmphaaDoor
open Go.RowKit
attribute [local go_sem ↓] Go.wp_at_zero Go.wp_at_succ
theorem quiet_drw {P : Program} {f : FuncId} {args : Array Value} {w : World} {n : Nat} {v : Value}
  (h : Calls P f args (w.drewN n) fun e w' => e = .returned v ∧ ∃ k, (w.drewN n).drewN k = w') : Calls P f args (w.drewN n) fun e w'' => e = .returned v ∧ ∃ m, w'' = w.drewN m :=
 h.mono fun _ _ ⟨he, k, hk⟩ => ⟨he, n + k, by rw [← hk, World.drewN_drewN]⟩
theorem partOf_walk (n0 : Int) (A : Option Addr) (m c : Nat) (l : List (Int × Int)) (w : World)
  (hr : Row w w.heap.size A (edgeC l)) (hl : l.length = m) (hmc : m ≤ c) (hc : c ≤ maxLen) (hT : Tab w) (h00 : 0 < w.heap.size) :
  Calls Tryd.prog 3 #[.int .i64 n0, .slice A m c] w fun e w' => e = .returned (.bool true) ∧ Only [] w w' := by
 have HWO := Hd (fun (W : World) (O : Only [] w W) => works20_any W (hT.only h00 O (by simp)) (Nat.lt_of_lt_of_le h00 O.size));have HSM := Hd (fun (W : World) => small19_any n0 W);have HFE := Hd (fun (W : World) (O : Only [] w W) => few19_any A m c l W (row_up (hr.only O (by simp))) hl hmc hc);have HLL : (l.take (min m 60)).length = min m 60 := by rw [List.length_take, hl]; omega
 have HT := Hd (fun (W : World) (O : Only [] w W) => aI (hT.only h00 O (by simp)) (Nat.lt_of_lt_of_le h00 O.size));obtain ⟨M, hM⟩ : ∃ M, M = min m 60 := ⟨_, rfl⟩;have hM60 : M ≤ 60 := by omega
 rw [← hM] at HLL;simp only [← hM] at HFE;obtain ⟨L, hL⟩ : ∃ L, L = l.take M := ⟨_, rfl⟩;rw [← hL] at HLL;simp only [← hL] at HFE;have HLN := Hd HLL;have hm60 : min M 60 = M := by omega
 have htake : L.take M = L := List.take_of_length_le (by omega);have HF2 := Hd (fun (w : World) (B : Option Addr) (cb : Nat) (hrow : Row w w.heap.size B (edgeC L)) (hb1 : M ≤ cb) (hb2 : cb ≤ maxLen) => by
  have := few19_any B M cb L w hrow HLL hb1 hb2;rw [hm60, htake] at this;exact this)
 obtain ⟨N, hN⟩ : ∃ N, N = smallN n0 := ⟨_, rfl⟩;rw [← hN] at HSM;clear hL hM HLL hr hT hN hl hmc hc hm60 htake;go_enter Tryd.func3, Tryd.ntmps3;go_wp2_with fail
 refine (HSM.out w).mono ?_;rintro e w1 ⟨rfl, rfl⟩;go_wp2_with fail
 refine (HFE.out w (Only.refl _ _)).mono ?_;rintro e w1 ⟨v, rfl, hv, O1⟩;obtain ⟨B, cb, rfl, hb1, hb2, -, hrow⟩ := own_row hv;have HF3 := Hd (HF2.out w1 B cb hrow hb1 hb2);have HROW := Hd hrow;have HO1 := Hd O1;clear hv hrow O1 HFE HSM;go_wp2_with fail
 refine (HF3.out).mono ?_;rintro e w2 ⟨v2, rfl, hv2, O2⟩;obtain ⟨B2, cb2, rfl, -, -, -, hrow2⟩ := own_row hv2;have HO2 := Hd (HO1.out.trans O2);have HPO := Hd (pof_any N B2 M cb2 L w2 hrow2 HLN.out (by omega) (HT.out _ HO2.out).1 (HT.out _ HO2.out).2);have HRW2 := Hd (HROW.out.only O2 (by simp));clear hv2 hrow2 O2 HF3 HO1 HROW;have HWB : Hid (∀ (W : World) (B : Option Addr) (cb : Nat), Only [] w W → Row W W.heap.size B (edgeC L) → mayL N L = false → Calls Tryd.prog 9 #[.int .i64 N, .slice B M cb] W fun e w' => e = .returned (.tuple #[.slice none 0 0, .int .i64 2]) ∧ Only [] W w') := Hd (fun W B cb O hr hm => which_bad N B M cb L W hr HLN.out (by omega) (HT.out W O).1 (HT.out W O).2 hm)
 cases hmy : mayL N L with
 | false =>
  rw [partR_no hmy] at HPO;have HMF := Hd (fun (W : World) (hr : Row W W.heap.size B (edgeC L)) => by
   have := rmay20_any N B M cb L W hr HLN.out (by omega);rw [hmy] at this;exact this)
  have HWC := Hd (fun W B cb O hr => HWB.out W B cb O hr hmy);dsimp only at HPO;clear hmy HWB;go_wp2_with fail
  refine (HPO.out).mono ?_;rintro e w3 ⟨qs, A3, c3, ⟨rfl, h1, h2, h3⟩, O3⟩;obtain rfl : qs = [] := List.map_eq_nil_iff.1 h3;have HO3 := Hd (HO2.out.trans O3);have HRW3 := Hd (row_up (HRW2.out.only O3 (by simp)));have HF4 := Hd (HF2.out w3 B cb HRW3.out hb1 hb2);clear h1 h2 h3 O3 HPO HRW2 HO2;go_wp2_with fail
  refine (HF4.out).mono ?_;rintro e w4 ⟨v4, rfl, hv4, O4⟩;obtain ⟨B4, cb4, rfl, -, -, -, hrow4⟩ := own_row hv4;have HO4 := Hd (HO3.out.trans O4);have HWD := Hd (HWC.out w4 B4 cb4 HO4.out hrow4);have HRW4 := Hd (HRW3.out.only O4 (by simp));clear hv4 hrow4 O4 HF4 HO3 HRW3 HWC;go_wp2_with fail
  refine (HWD.out).mono ?_;rintro e w5 ⟨rfl, O5⟩;have HO5 := Hd (HO4.out.trans O5);have HMY := Hd (HMF.out w5 (row_up (HRW4.out.only O5 (by simp))));clear O5 HWD HO4 HRW4 HMF;go_wp2_with fail
  refine (HMY.out).mono ?_;rintro e w6 ⟨rfl, rfl⟩;clear HMY;go_wp2_with fail
  refine (HWO.out w5 HO5.out).mono ?_;rintro e w7 ⟨rfl, O7⟩;have HO7 := Hd (HO5.out.trans O7);clear O7;go_wp2
  go_ret
  exact ⟨rfl, HO7.out⟩
 | true =>
  obtain ⟨q, rfl, hq, wf, hg⟩ := may_wf hmy;rw [partR_yes hmy] at HPO;have HMF := Hd (fun (W : World) (hr : Row W W.heap.size B (edgeC L)) => by
   have := rmay20_any (q : Int) B M cb L W hr HLN.out (by omega);rw [hmy] at this;exact this)
  have HWC := Hd (fun (W : World) (B : Option Addr) (cb : Nat) (O : Only [] w W) (hr : Row W W.heap.size B (edgeC L)) => which_good q B M cb L W hr HLN.out (by omega) (HT.out W O).1 (HT.out W O).2 hmy);have HRF := Hd (fun (W : World) (hr : Row W W.heap.size B (edgeC L)) => rparts_any q B M cb W.heap.size L W hr HLN.out (by omega) hq wf);dsimp only at HPO;have HIP := Hd (parts_in wf);have hPN : (partsL q L).length ≤ q := by
   unfold partsL;rw [List.length_map];exact Nat.le_trans (List.length_filter_le _ _) (by simp)
  have hPM : ∀ p ∈ partsL q L, p.length ≤ q := fun p hp => by
   unfold partsL at hp;obtain ⟨a, _, rfl⟩ := List.mem_map.1 hp;exact part_len a
  have HPM := Hd hPM;clear hmy wf hg HWB hPM;obtain ⟨P, hP⟩ : ∃ P, P = partsL q L := ⟨_, rfl⟩;rw [← hP] at HPO HIP hPN HPM;simp only [← hP] at HWC HRF;clear hP;obtain ⟨d, hd⟩ : ∃ d, d = P.length := ⟨_, rfl⟩;rw [← hd] at hPN;have HD := Hd hd;clear hd;go_wp2_with fail
  refine (HPO.out).mono ?_;rintro e w3 ⟨qs, A3, c3, ⟨rfl, h1, h2, h3⟩, O3⟩;have hqs : qs.length = d := by rw [HD.out, ← h3, List.length_map]
  have HO3 := Hd (HO2.out.trans O3);have HRW3 := Hd (row_up (HRW2.out.only O3 (by simp)));have HF4 := Hd (HF2.out w3 B cb HRW3.out hb1 hb2);have HQ3 := Hd (row_of_own h1);have HX3 := Hd h2;have HL3 := Hd h3;rw [hqs];have HQL := Hd hqs;clear h1 h2 h3 O3 HPO HRW2 HO2 hqs;go_wp2_with fail
  refine (HF4.out).mono ?_;rintro e w4 ⟨v4, rfl, hv4, O4⟩;obtain ⟨B4, cb4, rfl, -, -, -, hrow4⟩ := own_row hv4;have HO4 := Hd (HO3.out.trans O4);have HWD := Hd (HWC.out w4 B4 cb4 HO4.out hrow4);have HRW4 := Hd (row_up (HRW3.out.only O4 (by simp)));have HQ4 := Hd (HQ3.out.only O4 (by simp));have HX4 := Hd (fun x hx => (HX3.out x hx).only O4 (by simp));clear hv4 hrow4 O4 HF4 HO3 HRW3 HWC HQ3 HX3;go_wp2_with fail
  refine (HWD.out).mono ?_;rintro e w5 ⟨b, ⟨rfl, hB⟩, O5⟩;have HO5 := Hd (HO4.out.trans O5);have HRW5 := Hd (row_up (HRW4.out.only O5 (by simp)));have HMY := Hd (HMF.out w5 HRW5.out);have HQ5 := Hd (HQ4.out.only O5 (by simp));have HX5 := Hd (fun x hx => (HX4.out x hx).only O5 (by simp));have HB5 := Hd hB;have HRP := Hd (HRF.out w5 HRW5.out);clear O5 HWD HO4 HRW4 HMF HQ4 HX4 hB HRF HRW5;go_wp2_with fail
  refine (HMY.out).mono ?_;rintro e w6 ⟨rfl, rfl⟩;clear HMY;go_wp2_with fail
  refine (HRP.out).mono ?_;rintro e w6 ⟨rs, A6, c6, ⟨rfl, h1, h2, h3⟩, O6⟩;have hrs : rs.length = d := by rw [HD.out, ← h3, List.length_map]
  have HO6 := Hd (HO5.out.trans O6);have HQ6 := Hd (HQ5.out.only O6 (by simp));have HX6 := Hd (fun x hx => (HX5.out x hx).only O6 (by simp));have HB6 := Hd (O6.blk HB5.out (by simp));have HR6 := Hd (row_of_own h1);have HY6 := Hd h2;have HL6 := Hd h3;rw [hrs];have HRL := Hd hrs;clear h1 h2 h3 O6 HRP HO5 HQ5 HX5 HB5 hrs;go_wp2_with fail
  have HAT : Hid (∀ (i : Nat) (x : LP), qs[i]? = some x → P[i]? = some x.L) := Hd (fun i x h => by rw [← HL3.out, List.getElem?_map, h]; rfl);have HAU : Hid (∀ (i : Nat) (x : LP), rs[i]? = some x → P[i]? = some x.L) := Hd (fun i x h => by rw [← HL6.out, List.getElem?_map, h]; rfl)
  go_loopw [10] (fun iv wr => ∃ i : Nat, iv = .int .i64 i ∧ i ≤ d ∧ Hid (Only [] w6 wr)) (fun iv _ => d - (intOf iv).toNat)
  case atStart => exact ⟨0, rfl, by omega, Hd (Only.refl _ _)⟩
  case round =>
   obtain ⟨i, rfl, hin, hO⟩ := hrel
   by_cases hlt : i < d
   ·have h01 : (i : Int) < (d : Int) := by omega
    have hi0 : (0 : Int) ≤ (i : Int) := Int.natCast_nonneg _;have hwi : IntKind.i64.wrap ((i : Int) + 1) = (i : Int) + 1 := IntWalk.i64_in _ (by omega);obtain ⟨x, hx⟩ : ∃ x, qs[i]? = some x := ⟨_, List.getElem?_eq_getElem (by rw [HQL.out]; exact hlt)⟩;obtain ⟨y, hy⟩ : ∃ y, rs[i]? = some y := ⟨_, List.getElem?_eq_getElem (by rw [HRL.out]; exact hlt)⟩;have hpx := HAT.out i x hx;have hpy := HAU.out i y hy;have hxy : x.L = y.L := Option.some.inj (hpx.symm.trans hpy);obtain ⟨br, off, e5, -, hbr, hcell⟩ := HQ6.out.open_ (k := i) (by rw [List.length_map, HQL.out]; exact hlt);have e0 := hcell i (.slice (some ⟨x.b, 0, none⟩) x.L.length x.c) (by rw [List.getElem?_map, hx]; rfl);obtain ⟨bs, of2, e6, -, hbs, hcell2⟩ := HR6.out.open_ (k := i) (by rw [List.length_map, HRL.out]; exact hlt);have e1 := hcell2 i (.slice (some ⟨y.b, 0, none⟩) y.L.length y.c) (by rw [List.getElem?_map, hy]; rfl);subst e5 e6;have hXO := (HX6.out x (List.mem_of_getElem? hx)).1;have hYO := (HY6.out y (List.mem_of_getElem? hy)).1;have hlp : y.L.length ≤ q := HPM.out y.L (List.mem_of_getElem? hpy);have HNZ : Hid (∀ z ∈ y.L, ∃ u : Nat, z = (u : Int) ∧ u < q ∧ idxP P u = i) := Hd (fun z hz => by
     obtain ⟨u, rfl, hu⟩ := HIP.out.nat y.L (List.mem_of_getElem? hpy) z hz;exact ⟨u, rfl, hu, HIP.out.one i y.L hpy u hz⟩)
    have HE1 := Hd e1;have HYO := Hd hYO;have hS : ∀ k, Calls Tryd.prog 13 #[.slice (some ⟨x.b, 0, none⟩) y.L.length x.c, .slice (some ⟨y.b, 0, none⟩) y.L.length y.c] (wr.drewN k) fun e w' => e = .returned (.bool true) ∧ ∃ m, (wr.drewN k).drewN m = w' := fun k => by
     have OD : Only [] w6 (wr.drewN k) := hO.out.drewN k;have := sameInts_any (some ⟨x.b, 0, none⟩) (some ⟨y.b, 0, none⟩) y.L.length y.L.length x.c y.c x.L y.L (wr.drewN k) _ _ (row_of_own (own_only hXO OD (by simp))) (row_of_own (own_only hYO OD (by simp))) (by rw [hxy]) rfl (by omega) (by omega);rw [hxy, decide_eq_true rfl] at this;exact this
    rw [hxy] at e0;have HS := Hd hS;have f0 := (hO.out.cell (p := ⟨br, off + i, none⟩) hbr (by simp)).trans e0;have f1 := (hO.out.cell (p := ⟨bs, of2 + i, none⟩) hbs (by simp)).trans e1;have lbr := Nat.lt_of_lt_of_le hbr hO.out.size;have lbs := Nat.lt_of_lt_of_le hbs hO.out.size;have HYL : Hid (y.L = y.L) := Hd rfl;obtain ⟨t, ht⟩ : ∃ t, t = y.L.length := ⟨_, rfl⟩;rw [← ht] at HS HE1 f0 f1 hlp;have HTL := Hd ht;clear hx hy hpx hpy hxy hcell hcell2 hXO hYO e0 e1 hS ht HYL;go_wp2_with fail
    go_quiet ((go_at_call 13; exact quiet_drw (HS.out _)))
    have HOD := Hd (hO.out.drewN nq);clear f0 f1 lbr lbs HS hO;generalize wr.drewN nq = w8 at *;go_wp2_with fail
    go_loopw [11] (fun kv wr => ∃ k : Nat, kv = .int .i64 k ∧ k ≤ t ∧ Hid (Only [] w6 wr)) (fun kv _ => t - (intOf kv).toNat)
    case atStart => exact ⟨0, rfl, by omega, HOD⟩
    case round =>
     clear HOD;obtain ⟨k, rfl, hkt, hO⟩ := hrel;have f1 := (hO.out.cell (p := ⟨bs, of2 + i, none⟩) hbs (by simp)).trans HE1.out;have lbs := Nat.lt_of_lt_of_le hbs hO.out.size
     by_cases hlt2 : k < t
     ·have h02 : (k : Int) < (t : Int) := by omega
      have hk0 : (0 : Int) ≤ (k : Int) := Int.natCast_nonneg _;have hwk : IntKind.i64.wrap ((k : Int) + 1) = (k : Int) + 1 := IntWalk.i64_in _ (by omega);obtain ⟨z0, hz⟩ : ∃ z, y.L[k]? = some z := ⟨_, List.getElem?_eq_getElem (by rw [← HTL.out]; exact hlt2)⟩;obtain ⟨z, rfl, hzq, hzi⟩ := HNZ.out z0 (List.mem_of_getElem? hz);have hz0 : (0 : Int) ≤ (z : Int) := Int.natCast_nonneg _;have hzq2 : (z : Int) < (q : Int) := by omega
      have hok := own_only HYO.out hO.out (by simp);have f2 := (own_cell hok (g := y.b) rfl (j := k) (u := .int .i64 (z : Int)) (by rw [List.getElem?_map, hz]; rfl)).1;have ly : y.b < wr.heap.size := own_lt hok (by simp [LP.v, Value.ownBlock]);have hB := hO.out.blk HB6.out (by simp);have f3 := (hB.at_ z).trans (intsF_at _ hzq);rw [hzi] at f3;have lb := hB.lt;clear hok hB hz hzi;go_wp2
      go_roundw
      case rel => first | exact ⟨k + 1, by go_num, by omega, hO⟩ | exact ⟨_, ⟨k + 1, by go_num, by omega, hO⟩, rfl⟩
      case measure => simp [intOf]; omega
     ·have hkk : t = k := by omega
      have hdd : decide ((k : Int) < (k : Int)) = false := by simp
      subst hkk;go_wp2
      go_roundw
      case rel => first | exact ⟨i + 1, by go_num, by omega, hO⟩ | exact ⟨_, ⟨i + 1, by go_num, by omega, hO⟩, rfl⟩
      case measure => simp [intOf]; omega
   ·have hid : d = i := by omega
    have hdd : decide ((d : Int) < (d : Int)) = false := by simp
    have HO7 := Hd (HO6.out.trans hO.out);subst hid;go_wp2_with fail
    refine (HWO.out wr HO7.out).mono ?_;rintro e w9 ⟨rfl, O9⟩;have HO9 := Hd (HO7.out.trans O9);clear O9;go_wp2
    go_ret
    exact ⟨rfl, HO9.out⟩
end Go.Proofs.YtlemjgjpglmphaaDoor
