/- Parts. -/
import Derived.Test.YtoojabllolnhnaaDoorLaw22AllK35
set_option maxRecDepth 10000
set_option maxHeartbeats 16000000
set_option linter.unusedVariables false
set_option linter.unusedSimpArgs false
namespace Go.Proofs.YtoojabllolnhnaaDoor
open Go.RowKit
attribute [local go_sem ↓] Go.wp_at_zero Go.wp_at_succ
theorem risT_any (Az : Option Addr) (n cz Bz : Nat) (zs : List Int) (A : Option Addr) (m c : Nat) (l : List (Int × Int)) (w : World) (hz : Row w Bz Az (zs.map (Value.int .i64))) (hzl : zs.length = n) (hr : Row w w.heap.size A (edgeC l)) (hl : l.length = m) (hn : n ≤ 1000) (hm : m ≤ 1000) :
  Calls Tryd.prog 16 #[.slice Az n cz, .slice A m c] w fun e w' => e = .returned (.bool (isT zs l)) ∧ Only [] w w' := by
 obtain ⟨R, hR⟩ : ∃ R, R = isT zs l := ⟨_, rfl⟩;rw [← hR];have HRS := Hd hR;clear hR;have HMYC := Hd (rmay19_any (n : Int) A m c l w hr hl (by omega));have HR := Hd hr;have HZ := Hd hz;have HL := Hd hl;have HZL := Hd hzl;have hzl' := hzl;clear hr hz hl hzl
 cases hmy : mayL (n : Int) l with
 | false =>
  have HE : Hid (R = false) := Hd (by rw [HRS.out]; exact isT_may (by rw [hzl']; exact hmy));rw [hmy] at HMYC;clear hmy HR HZ HRS;go_enter Tryd.func16, Tryd.ntmps16;go_wp2_with fail
  refine (HMYC.out).mono ?_;rintro e w1 ⟨rfl, rfl⟩;go_wp2
  go_ret
  exact ⟨by rw [HE.out]; rfl, Only.refl [] _⟩
 | true =>
   rw [hmy] at HMYC;obtain ⟨n', hn', hn5, hwf, -⟩ := may_wf hmy;obtain rfl : n = n' := by omega
   have HWF := Hd hwf;have HMY : Hid (mayL (zs.length : Int) l = true) := Hd (by rw [HZL.out]; exact hmy);have hmk := fun W => make_ints n (by omega) W;clear hmy hn' hwf hzl';go_enter Tryd.func16, Tryd.ntmps16;go_wp2_with fail
   refine (HMYC.out).mono ?_;rintro e w1 ⟨rfl, rfl⟩;clear HMYC;go_upto_region 5 with (fail)
   have HB2 := Hd (Blk.made w 3 (intsF n fun _ => 0));have HO2 := Hd ((Only.refl [] w).alloc (.cells (intsF n fun _ => 0) 3));clear hmk;generalize (w.alloc (.cells (intsF n fun _ => 0) 3)) = w2 at *;obtain ⟨b, hb⟩ : ∃ b, b = w.heap.size := ⟨_, rfl⟩;rw [← hb] at HB2 ⊢;have hb1 : w.heap.size ≤ b := by omega
   clear hb;go_wp2_with fail
   go_loopw [7] (fun iv wr => ∃ i : Nat, iv = .int .i64 (i : Int) ∧ i ≤ n ∧ Hid ((zs.take i).Nodup) ∧ Hid (∀ a ∈ zs.take i, 0 ≤ a ∧ a < (n : Int)) ∧ Hid (Blk wr b 3 (intsF n (placeF (zs.take i)))) ∧ Hid (Only [] w wr)) (fun iv _ => n - (intOf iv).toNat)
   case atStart => exact ⟨0, rfl, by omega, Hd List.nodup_nil, Hd (fun a h => by cases h), Hd (by rw [show intsF n (placeF (zs.take 0)) = intsF n (fun _ => 0) from intsF_congr (fun i _ => rfl)]; exact HB2.out), HO2⟩
   case round =>
    obtain ⟨i, rfl, hi, hnd, hin, hB, hO⟩ := hrel;clear HB2 HO2
    by_cases hlt : i < n
    ·obtain ⟨v, hv⟩ : ∃ v, zs[i]? = some v := ⟨_, List.getElem?_eq_getElem (by rw [HZL.out]; exact hlt)⟩;obtain ⟨bz, oz, rfl, -, hbw, hcell⟩ := (HZ.out.only hO.out (by simp)).open_ (k := i) (by rw [List.length_map, HZL.out]; exact hlt);have e0 := hcell i (.int .i64 v) (by rw [List.getElem?_map, hv]; rfl);have h01 : (i : Int) < (n : Int) := by omega
     have hi0 : (0 : Int) ≤ (i : Int) := Int.natCast_nonneg _;have hwi : IntKind.i64.wrap ((i : Int) + 1) = (i : Int) + 1 := IntWalk.i64_in _ (by omega);have hvm := List.mem_of_getElem? hv;clear hcell
     by_cases hv0 : v < 0
     ·have HE : Hid (R = false) := Hd (by rw [HRS.out]; exact isT_out hvm (by omega));have hd : decide (v < 0) = true := decide_eq_true hv0;clear hv hvm hnd hin hB;go_wp2
      go_ret
      exact ⟨by rw [HE.out]; rfl, hO.out⟩
     ·by_cases hvn : (n : Int) ≤ v
      ·have HE : Hid (R = false) := Hd (by rw [HRS.out]; exact isT_out hvm (by rw [HZL.out]; omega));have hd : decide (v < 0) = false := decide_eq_false hv0;have hd2 : decide ((n : Int) ≤ v) = true := decide_eq_true hvn;clear hv hvm hnd hin hB;go_wp2
       go_ret
       exact ⟨by rw [HE.out]; rfl, hO.out⟩
      ·obtain ⟨u, rfl⟩ : ∃ u : Nat, v = u := ⟨v.toNat, by omega⟩;have hun : u < n := by omega
       have k0 := (hB.out.at_ u).trans (intsF_at _ hun);have f0 := hB.out.free u;have lb := hB.out.lt;have hu0 : (0 : Int) ≤ (u : Int) := Int.natCast_nonneg _;have hun' : (u : Int) < (n : Int) := by omega
       have hd : decide ((u : Int) < 0) = false := decide_eq_false hv0;have hd2 : decide ((n : Int) ≤ (u : Int)) = false := decide_eq_false hvn;have hd3 : ¬ (u : Int) < 0 := hv0;have hd4 : ¬ (n : Int) ≤ (u : Int) := hvn
       by_cases hm : (u : Int) ∈ zs.take i
       ·have HE : Hid (R = false) := Hd (by rw [HRS.out]; exact isT_twice (not_nodup hv hm));obtain ⟨z, hz⟩ : ∃ z, z = placeF (zs.take i) u := ⟨_, rfl⟩;have hz0 : 0 < z := by rw [hz]; unfold placeF; have := pos_pos.2 hm; omega
        rw [← hz] at k0;have hdz : decide (0 < z) = true := decide_eq_true hz0;clear hz hv hvm hnd hin hB hv0 hvn hm;go_wp2
        go_ret
        exact ⟨by rw [HE.out]; rfl, hO.out⟩
       ·have hz0 : placeF (zs.take i) u = 0 := by
         unfold placeF;have : ¬ 0 < posT (zs.take i) (u : Int) := fun h => hm (pos_pos.1 h);omega
        rw [hz0] at k0;have HT := Hd (take_snoc hv);have hlen : (zs.take i).length = i := by rw [List.length_take, HZL.out]; omega
        have HN : Hid ((zs.take (i + 1)).Nodup) := Hd (by rw [HT.out]; exact nodup_snoc hnd.out hm);have HIN : Hid (∀ a ∈ zs.take (i + 1), 0 ≤ a ∧ a < (n : Int)) := Hd (fun a ha => by
         rw [HT.out] at ha;rcases List.mem_append.1 ha with h1 | h1
         ·exact hin.out a h1
         ·simp at h1; omega)
        have HPS := Hd (fun x => place_snoc hm x);rw [hlen, ← HT.out] at HPS;clear hv hvm hnd hin hv0 hvn hm hz0 hlen;go_wp2
        go_roundw
        case rel =>
         refine ⟨i + 1, by go_num, by omega, HN, HIN, Hd ?_, Hd (hO.out.put (p := ⟨b, u, none⟩) (fun h => by simp at h; omega) _)⟩;have := hB.out.put u (.int .i64 ((i : Int) + 1));rw [intsF_set _ _ hun, intsF_congr (fun y _ => HPS.out y)] at this;exact this
        case measure => simp [intOf]; omega
    ·have hin' : i = n := by omega
     subst hin';have hd2 : decide ((i : Int) < (i : Int)) = false := by simp
     have htk : zs.take i = zs := List.take_of_length_le (by rw [HZL.out]; exact Nat.le_refl _);rw [htk] at hnd hin hB;clear htk;obtain ⟨wo, hwo⟩ : ∃ wo : World, wo = wr := ⟨_, rfl⟩;subst hwo;go_wp2_with fail
     go_loopw [8] (fun jv wr => ∃ j : Nat, jv = .int .i64 (j : Int) ∧ j ≤ m ∧ Hid (∀ e ∈ l.take j, posT zs e.1 < posT zs e.2) ∧ Hid (Only [] wo wr)) (fun jv _ => m - (intOf jv).toNat)
     case atStart => exact ⟨0, rfl, by omega, Hd (fun a h => by cases h), Hd (Only.refl _ _)⟩
     case round =>
      obtain ⟨j, rfl, hj, hal, hO2⟩ := hrel
      by_cases hlt : j < m
      ·obtain ⟨e, he⟩ : ∃ e, l[j]? = some e := ⟨_, List.getElem?_eq_getElem (by rw [HL.out]; exact hlt)⟩;obtain ⟨ex, ey, rfl, hxn, hyn⟩ := HWF.out e (List.mem_of_getElem? he);obtain ⟨be, off, rfl, -, hbw, hcell⟩ := (HR.out.only (hO.out.trans hO2.out) (by simp)).open_ (k := j * 2) (by rw [edgeC_len, HL.out]; omega);have hg := edgeC_get l j _ he;have e0 := hcell _ _ hg.1;have e1 := hcell _ _ hg.2;rw [← Nat.add_assoc] at e1;dsimp only at e0 e1;have HB3 := Hd (hO2.out.blk hB.out (by simp));have h01 : (j : Int) < (m : Int) := by omega
       have hj0 : (0 : Int) ≤ (j : Int) := Int.natCast_nonneg _;have hx0 : (0 : Int) ≤ (ex : Int) := Int.natCast_nonneg _;have hxn' : (ex : Int) < (i : Int) := by omega
       have hy0 : (0 : Int) ≤ (ey : Int) := Int.natCast_nonneg _;have hyn' : (ey : Int) < (i : Int) := by omega
       have hwj : IntKind.i64.wrap ((j : Int) + 1) = (j : Int) + 1 := IntWalk.i64_in _ (by omega);have hem := List.mem_of_getElem? he;have HT : Hid (l.take (j + 1) = l.take j ++ [((ex : Int), (ey : Int))]) := Hd (by rw [List.take_add_one, he]; rfl);clear hcell hg he;have HB9 := HB3;have HO9 := hO2;have HE0 := Hd e0;have HE1 := Hd e1;have HBW := Hd (Nat.lt_of_lt_of_le hbw (Nat.le_refl wr.heap.size));clear e0 e1 HB3;go_upto_region 14 with (fail)
       obtain ⟨zx, hzx⟩ : ∃ zx, zx = posT zs (ex : Int) := ⟨_, rfl⟩;obtain ⟨zy, hzy⟩ : ∃ zy, zy = posT zs (ey : Int) := ⟨_, rfl⟩;have HK0 : Hid ((intsF i (placeF zs))[ex]? = some (.int .i64 (zx : Int))) := Hd (by rw [intsF_at _ hxn, hzx]; rfl);have HK1 : Hid ((intsF i (placeF zs))[ey]? = some (.int .i64 (zy : Int))) := Hd (by rw [intsF_at _ hyn, hzy]; rfl);have HQ : Hid (zx < zy ↔ posT zs (ex : Int) < posT zs (ey : Int)) := Hd (by rw [hzx, hzy]);clear hzx hzy;obtain ⟨r, hr⟩ : ∃ r, r = decide ((zy : Int) ≤ (zx : Int)) := ⟨_, rfl⟩;have HR2 := Hd hr;have hr1 := hr.symm;have hr2 : decide (zy ≤ zx) = r := by rw [hr, decide_eq_decide]; omega
       clear hr;have RD0 := Hd fun wq (hSw : Only [] wr wq) => aI ((hSw.cell (p := ⟨be, off + j * 2, none⟩) HBW.out (by simp)).trans HE0.out) (aI ((hSw.cell (p := ⟨be, off + j * 2 + 1, none⟩) HBW.out (by simp)).trans HE1.out) (aI (Nat.lt_of_lt_of_le HBW.out hSw.size) (aI ((hSw.blk HB9.out (by simp)).lt) (aI (((hSw.blk HB9.out (by simp)).at_ ex).trans HK0.out) (((hSw.blk HB9.out (by simp)).at_ ey).trans HK1.out)))));refine rg1 [] [] wr ?_;have OW : Only [] wr wr.drew := (Only.refl [] wr).drew;generalize wr.drew = wz at *;refine tQ 0 (h := tQ 1 (h := tQ 2 (h := tQ 3 (h := tQ 4 (h := trq 5 0 RD0 (h := tQ 6 (h := trq 7 0 RD0 (h := tQ 8 (h := tQ 9 (h := tQ 10 (h := tQ 11 (h := tQ 12 (h := trq 13 0 RD0 (h := tQ 14 (h := trq 15 0 RD0 (h := tQ 16 (h := ?_)))))))))))))))));refine tdn ?_;have HOZ := Hd (hO.out.trans (HO9.out.trans OW));have HOY := Hd (HO9.out.trans OW);clear OW HB9 HK0 HK1 hO2
       cases r with
       | true =>
        have HE : Hid (R = false) := Hd (by
         rw [HRS.out];have h1 : zy ≤ zx := by simpa using hr2
         exact isT_back hem (fun h => by have := HQ.out.2 h; omega))
        go_wp2
        go_ret
        exact ⟨by rw [HE.out]; rfl, HOZ.out⟩
       | false =>
        have HN : Hid (∀ e ∈ l.take (j + 1), posT zs e.1 < posT zs e.2) := Hd (fun e he => by
         rw [HT.out] at he;rcases List.mem_append.1 he with h1 | h1
         ·exact hal.out e h1
         ·have h2 : ¬ zy ≤ zx := by simpa using hr2
          rw [List.mem_singleton.1 h1];exact HQ.out.1 (by omega))
        clear HQ HT hal hem;go_wp2
        go_roundw
        case rel => exact ⟨j + 1, by go_num, by omega, HN, HOY⟩
        case measure => simp [intOf]; omega
      ·have hjm : j = m := by omega
       subst hjm;have hd2 : decide ((j : Int) < (j : Int)) = false := by simp
       have HE : Hid (R = true) := Hd (by
        rw [HRS.out];refine isT_true HMY.out hnd.out (fun a ha => by rw [HZL.out]; exact hin.out a ha) (fun e he => hal.out e ?_)
        rwa [List.take_of_length_le (by rw [HL.out]; exact Nat.le_refl _)])
       have HOZ := Hd (hO.out.trans hO2.out);go_wp2
       go_ret
       exact ⟨by rw [HE.out]; rfl, HOZ.out⟩
end Go.Proofs.YtoojabllolnhnaaDoor
