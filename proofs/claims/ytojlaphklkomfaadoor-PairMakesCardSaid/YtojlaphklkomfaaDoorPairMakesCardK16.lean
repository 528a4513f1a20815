/- Parts. -/
import Derived.Test.YtojlaphklkomfaaDoorPairMakesCardK10
import Derived.Test.YtojlaphklkomfaaDoorPairMakesCardK15
import Derived.Shelf.Slices.Turned
import Derived.Ground.Names2Prog
import Derived.Shelf.Slices.Clone
set_option maxRecDepth 10000
set_option maxHeartbeats 16000000
set_option linter.unusedVariables false
set_option linter.unusedSimpArgs false
namespace Go.Proofs.YtojlaphklkomfaaDoor
open Go.RowKit
open Go.Lib hiding intOf
attribute [local go_sem ↓] Go.wp_at_zero Go.wp_at_succ
theorem istab_any (A : Option Addr) (n c B : Nat) (t : List ByteArray) (w : World) (hn : t.length = n) (hnm : n ≤ 9223372036854775806) (hz : ∀ z ∈ t, z.size ≤ 9223372036854775807) (hA : Row w B A (strs t)) (hT : UTabs w) :
  Calls Tryd.prog 36 #[.slice A n c] w fun e w' => e = .returned (.bool (tabB t)) ∧ Only [] w w' := by
 have HIS := Hd (fun (k : Nat) z w' (h : Only [] w w') (hz' : t[k]? = some z) => is_any z w' (hz z (List.mem_of_getElem? hz')) (hT.only h));have HLS := Hd (fun (k j : Nat) y z w' (h : Only [] w w') (hy : t[j]? = some y) (hz' : t[k]? = some z) => less_any y z w' (hz y (List.mem_of_getElem? hy)) (hz z (List.mem_of_getElem? hz')) (hT.only h));have HN := Hd hn;have HROW := Hd hA;clear hn hz hA hT;go_enter Tryd.func36, Tryd.ntmps36;go_wp2_with fail
 go_loopw [7] (fun iv wr => ∃ (k : Nat), iv = .int .i64 k ∧ k ≤ n ∧ Hid (∀ (j : Nat) x, j < k → t[j]? = some x → isName x = true) ∧ Hid (∀ (j : Nat) x y, j + 1 < k → t[j]? = some x → t[j + 1]? = some y → lessB x y = true) ∧ Hid (Only [] w wr)) (fun iv _ => n - (intOf iv).toNat)
 case atStart => exact ⟨0, rfl, by omega, Hd (fun j x h => by omega), Hd (fun j x y h => by omega), Hd (Only.refl [] w)⟩
 case round =>
  obtain ⟨k, rfl, hk, HNM, HLE, HO⟩ := hrel
  by_cases hlt : k < n
  ·have h01 : (k : Int) < (n : Int) := by omega
   have hk0 : (0 : Int) ≤ (k : Int) := Int.natCast_nonneg _;have hwk : IntKind.i64.wrap ((k : Int) + 1) = (k : Int) + 1 := IntWalk.i64_in _ (by omega);obtain ⟨b, off, rfl, hbB, hbw, hcell⟩ := HROW.out.open_ (k := k) (by rw [strs, List.length_map, HN.out]; exact hlt);obtain ⟨l, hl⟩ : ∃ l, t[k]? = some l := ⟨_, List.getElem?_eq_getElem (by rw [HN.out]; exact hlt)⟩;have HUP := Hd (fun (w' : World) (h : Only [] w w') (j : Nat) (x : ByteArray) (hx : t[j]? = some x) => ((h.cell (p := ⟨b, off + j, none⟩) hbw (by simp)).trans (hcell j _ (by rw [strs, List.getElem?_map, hx]; rfl)) : w'.cell? ⟨b, off + j, none⟩ = some (.string x)));have hck := HUP.out wr HO.out k l hl;have hck' : k = 0 → wr.cell? ⟨b, off, none⟩ = some (.string l) := fun h => by subst h; exact hck
   have HI := Hd (HIS.out k l wr HO.out hl);have HLK := Hd hl;obtain ⟨v, hv⟩ : ∃ v, v = isName l := ⟨_, rfl⟩;rw [← hv] at HI;have HV := Hd hv;have HCK := Hd hck';clear hcell hl hv hck'
   cases v with
   | false =>
    have HF : Hid (tabB t = false) := Hd (tab_bad1 HLK.out HV.out.symm);go_wp2_with fail
    refine (HI.out).mono ?_;rintro e w2 ⟨rfl, hO2⟩;have HO2 := Hd (HO.out.trans hO2);clear hO2;go_wp2
    go_ret
    exact ⟨by rw [HF.out]; rfl, HO2.out⟩
   | true =>
    have HNM2 : Hid (∀ (j : Nat) x, j < k + 1 → t[j]? = some x → isName x = true) := Hd (fun j x hj hx => by
     by_cases h : j < k
     ·exact HNM.out j x h hx
     ·obtain rfl : j = k := by omega
      rw [HLK.out] at hx;obtain rfl := Option.some.inj hx;exact HV.out.symm)
    by_cases hk00 : k = 0
    ·have hck0 := HCK.out hk00;subst hk00;have HLE2 : Hid (∀ (j : Nat) x y, j + 1 < 0 + 1 → t[j]? = some x → t[j + 1]? = some y → lessB x y = true) := Hd (fun j x y h => by omega);go_wp2_with fail
     refine (HI.out).mono ?_;rintro e w2 ⟨rfl, hO2⟩;have HO2 := Hd (HO.out.trans hO2);clear hO2;go_wp2
     go_roundw
     case rel => exact ⟨0 + 1, by first | rfl | go_num, by omega, HNM2, HLE2, HO2⟩
     case measure => simp [intOf]; omega
    ·obtain ⟨j, hj⟩ : ∃ j, k = j + 1 := ⟨k - 1, by omega⟩;have hkp : (0 : Int) < (k : Int) := by omega
     have hwj : IntKind.i64.wrap ((k : Int) - 1) = (j : Int) := by rw [IntWalk.i64_in _ (by omega)]; omega
     have hj0 : (0 : Int) ≤ (j : Int) := Int.natCast_nonneg _;have hj1 : (j : Int) < (n : Int) := by omega
     obtain ⟨y, hy⟩ : ∃ y, t[j]? = some y := ⟨_, List.getElem?_eq_getElem (by rw [HN.out]; omega)⟩;have HJ := Hd hj;have HY := Hd hy;have HLS1 := Hd (fun w' h => HLS.out k j y l w' h hy HLK.out);obtain ⟨u, hu⟩ : ∃ u, u = lessB y l := ⟨_, rfl⟩;have hu2 : u = lessL (runesL (by_ y)) (runesL (by_ l)) := hu;rw [← hu2] at HLS1;have HU := Hd hu;clear hj hy hu hu2;go_wp2_with fail
     refine (HI.out).mono ?_;rintro e w2 ⟨rfl, hO2⟩;have HO2 := Hd (HO.out.trans hO2);have hcj := HUP.out w2 HO2.out j y HY.out;clear hO2;go_wp2_with fail
     refine (HLS1.out _ HO2.out).mono ?_;rintro e w3 ⟨rfl, hO3⟩;have HO3 := Hd (HO2.out.trans hO3);clear hO3 hcj
     cases u with
     | false =>
      have HF : Hid (tabB t = false) := Hd (tab_bad2 HY.out (by rw [← HJ.out]; exact HLK.out) HU.out.symm);go_wp2
      go_ret
      exact ⟨by rw [HF.out]; rfl, HO3.out⟩
     | true =>
      have HLE2 : Hid (∀ (i : Nat) x z, i + 1 < k + 1 → t[i]? = some x → t[i + 1]? = some z → lessB x z = true) := Hd (fun i x z hi hx hz => by
       by_cases h : i + 1 < k
       ·exact HLE.out i x z h hx hz
       ·obtain rfl : i = j := by have := HJ.out; omega
        rw [HY.out] at hx;obtain rfl := Option.some.inj hx;rw [← HJ.out, HLK.out] at hz;obtain rfl := Option.some.inj hz;exact HU.out.symm)
      go_wp2
      go_roundw
      case rel => exact ⟨k + 1, by go_num, by omega, HNM2, HLE2, HO3⟩
      case measure => simp [intOf]; omega
  ·have hkn : k = n := by omega
   subst hkn;have hd : decide ((k : Int) < (k : Int)) = false := by simp
   have HF : Hid (tabB t = true) := Hd ((tab_iff t).2 ⟨fun j x hx => HNM.out j x (by rw [← HN.out]; exact (List.getElem?_eq_some_iff.1 hx).1) hx, fun j x y hx hy => HLE.out j x y (by rw [← HN.out]; exact (List.getElem?_eq_some_iff.1 hy).1) hx hy⟩);go_wp2
   go_ret
   exact ⟨by rw [HF.out]; rfl, HO.out⟩
end Go.Proofs.YtojlaphklkomfaaDoor
namespace Go.Proofs
open Go.Shelf
def Tryd.laysIndex_ren : Go.Shelf.Ren := ⟨fun | 109 => 51 | n => n, fun | 31 => 24 | 9 => 9 | 3 => 3 | 0 => 0 | 4 => 4 | n => n, fun | n => n⟩
theorem Tryd.laysIndex : Go.Proofs.Lays.n109 Tryd.prog Tryd.laysIndex_ren := {
 mixed := by kernel_rfl
 f109 := Tryd.func51.trans (congrArg some (by kernel_rfl))
 t0 := Tryd.underlying0
 a0 := Tryd.isAgg0
 z0 := Tryd.sizeOf0
 v0 := Tryd.zeroValue0
 t3 := Tryd.underlying3
 a3 := Tryd.isAgg3
 z3 := Tryd.sizeOf3
 v3 := Tryd.zeroValue3
 t4 := Tryd.underlying4
 a4 := Tryd.isAgg4
 z4 := Tryd.sizeOf4
 v4 := Tryd.zeroValue4
 t9 := Tryd.underlying9
 a9 := Tryd.isAgg9
 z9 := Tryd.sizeOf9
 v9 := Tryd.zeroValue9
 t31 := Tryd.underlying24
 a31 := Tryd.isAgg24
 z31 := Tryd.sizeOf24
 v31 := Tryd.zeroValue24 }
def Tryd.laysClone_ren : Go.Shelf.Ren := ⟨fun | 16 => 73 | n => n, fun | 24 => 24 | 9 => 9 | 4 => 4 | n => n, fun | n => n⟩
theorem Tryd.laysClone : Go.Proofs.Lays2.n16 Tryd.prog Tryd.laysClone_ren := {
 mixed := by kernel_rfl
 f16 := Tryd.func73.trans (congrArg some (by kernel_rfl))
 t4 := Tryd.underlying4
 a4 := Tryd.isAgg4
 z4 := Tryd.sizeOf4
 v4 := Tryd.zeroValue4
 t9 := Tryd.underlying9
 a9 := Tryd.isAgg9
 z9 := Tryd.sizeOf9
 v9 := Tryd.zeroValue9
 t24 := Tryd.underlying24
 a24 := Tryd.isAgg24
 z24 := Tryd.sizeOf24
 v24 := Tryd.zeroValue24
 i9 := by kernel_rfl }
end Go.Proofs
