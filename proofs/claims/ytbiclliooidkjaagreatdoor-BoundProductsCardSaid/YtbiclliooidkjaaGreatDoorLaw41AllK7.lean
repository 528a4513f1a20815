/- Parts. -/
import Derived.Test.YtbiclliooidkjaaGreatDoorLaw41AllK5
import Derived.Test.YtbiclliooidkjaaGreatDoorLaw41AllK6
set_option maxRecDepth 10000
set_option maxHeartbeats 16000000
set_option linter.unusedVariables false
set_option linter.unusedSimpArgs false
namespace Go.Proofs.YtbiclliooidkjaaGreatDoor
open Go.RowKit
open Go.Lib hiding intOf
attribute [local go_sem ↓] Go.wp_at_zero Go.wp_at_succ
theorem istab_any (A : Option Addr) (n c B : Nat) (t : List ByteArray) (w : World) (hn : t.length = n) (hnm : n ≤ 9223372036854775806) (hz : ∀ z ∈ t, z.size ≤ 9223372036854775807) (hA : Row w B A (strs t)) (hT : UTabs w) :
  Calls Tryz.prog 61 #[.slice A n c] w fun e w' => e = .returned (.bool (tabB t)) ∧ Only [] w w' := by
 have HIS := Hd (fun (k : Nat) z w' (h : Only [] w w') (hz' : t[k]? = some z) => is_any z w' (hz z (List.mem_of_getElem? hz')) (hT.only h));have HLS := Hd (fun (k j : Nat) y z w' (h : Only [] w w') (hy : t[j]? = some y) (hz' : t[k]? = some z) => less_any y z w' (hz y (List.mem_of_getElem? hy)) (hz z (List.mem_of_getElem? hz')) (hT.only h));have HN := Hd hn;have HROW := Hd hA;clear hn hz hA hT;go_enter Tryz.func61, Tryz.ntmps61;go_wp2_with fail
 go_loopw [7] (fun iv wr => ∃ (k : Nat), iv = .int .i64 k ∧ k ≤ n ∧ Hid (∀ (j : Nat) x, j < k → t[j]? = some x → isName x = true) ∧ Hid (∀ (j : Nat) x y, j + 1 < k → t[j]? = some x → t[j + 1]? = some y → lessB x y = true) ∧ Hid (Only [] w wr)) (fun iv _ => n - (intOf iv).toNat)
 case atStart => exact ⟨0, rfl, by omega, Hd (fun j x h => by omega), Hd (fun j x y h => by omega), Hd (Only.refl [] w)⟩
 case round =>
  obtain ⟨k, rfl, hk, HNM, HLE, HO⟩ := hrel
  by_cases hlt : k < n
  ·have h01 : (k : Int) < (n : Int) := by omega
   have hk0 : (0 : Int) ≤ (k : Int) := Int.natCast_nonneg _;have hwk : IntKind.i64.wrap ((k : Int) + 1) = (k : Int) + 1 := IntWalk.i64_in _ (by omega);obtain ⟨b, off, rfl, hbB, hbw, hcell⟩ := HROW.out.open_ (k := k) (by rw [strs, List.length_map, HN.out]; exact hlt);obtain ⟨l, hl⟩ : ∃ l, t[k]? = some l := ⟨_, List.getElem?_eq_getElem (by rw [HN.out]; exact hlt)⟩;have HUP := Hd (fun (w' : World) (h : Only [] w w') (j : Nat) (x : ByteArray) (hx : t[j]? = some x) => ((h.cell (p := ⟨b, off + j, none⟩) hbw (by simp)).trans (hcell j _ (by rw [strs, List.getElem?_map, hx]; rfl)) : w'.cell? ⟨b, off + j, none⟩ = some (.string x)));have hck := HUP.out wr HO.out k l hl;have hck' : k = 0 → wr.cell? ⟨b, off, none⟩ = some (.string l) := fun h => by subst h; exact hck
   have HI := Hd (HIS.out k l wr HO.out hl);have HLK := Hd hl;obtain ⟨v, hv⟩ : ∃ v, v = isName l := ⟨_, rfl⟩;rw [← hv] at HI;have HV := Hd hv;have HCK := Hd hck';clear hcell hl hv hck'
   cases v with
   | false =>
    have HF : Hid (tabB t = false) := Hd (tab_bad1 HLK.out HV.out.symm);go_wp2_with fail
    refine (HI.out).mono ?_;rintro e w2 ⟨rfl, hO2⟩;have HO2 := Hd (HO.out.trans hO2);clear hO2;go_wp2
    go_ret
    exact ⟨by rw [HF.out]; rfl, HO2.out⟩
   | true =>
    have HNM2 : Hid (∀ (j : Nat) x, j < k + 1 → t[j]? = some x → isName x = true) := Hd (fun j x hj hx => by
     by_cases h : j < k
     ·exact HNM.out j x h hx
     ·obtain rfl : j = k := by omega
      rw [HLK.out] at hx;obtain rfl := Option.some.inj hx;exact HV.out.symm)
    by_cases hk00 : k = 0
    ·have hck0 := HCK.out hk00;subst hk00;have HLE2 : Hid (∀ (j : Nat) x y, j + 1 < 0 + 1 → t[j]? = some x → t[j + 1]? = some y → lessB x y = true) := Hd (fun j x y h => by omega);go_wp2_with fail
     refine (HI.out).mono ?_;rintro e w2 ⟨rfl, hO2⟩;have HO2 := Hd (HO.out.trans hO2);clear hO2;go_wp2
     go_roundw
     case rel => exact ⟨0 + 1, by first | rfl | go_num, by omega, HNM2, HLE2, HO2⟩
     case measure => simp [intOf]; omega
    ·obtain ⟨j, hj⟩ : ∃ j, k = j + 1 := ⟨k - 1, by omega⟩;have hkp : (0 : Int) < (k : Int) := by omega
     have hwj : IntKind.i64.wrap ((k : Int) - 1) = (j : Int) := by rw [IntWalk.i64_in _ (by omega)]; omega
     have hj0 : (0 : Int) ≤ (j : Int) := Int.natCast_nonneg _;have hj1 : (j : Int) < (n : Int) := by omega
     obtain ⟨y, hy⟩ : ∃ y, t[j]? = some y := ⟨_, List.getElem?_eq_getElem (by rw [HN.out]; omega)⟩;have HJ := Hd hj;have HY := Hd hy;have HLS1 := Hd (fun w' h => HLS.out k j y l w' h hy HLK.out);obtain ⟨u, hu⟩ : ∃ u, u = lessB y l := ⟨_, rfl⟩;have hu2 : u = lessL (runesL (by_ y)) (runesL (by_ l)) := hu;rw [← hu2] at HLS1;have HU := Hd hu;clear hj hy hu hu2;go_wp2_with fail
     refine (HI.out).mono ?_;rintro e w2 ⟨rfl, hO2⟩;have HO2 := Hd (HO.out.trans hO2);have hcj := HUP.out w2 HO2.out j y HY.out;clear hO2;go_wp2_with fail
     refine (HLS1.out _ HO2.out).mono ?_;rintro e w3 ⟨rfl, hO3⟩;have HO3 := Hd (HO2.out.trans hO3);clear hO3 hcj
     cases u with
     | false =>
      have HF : Hid (tabB t = false) := Hd (tab_bad2 HY.out (by rw [← HJ.out]; exact HLK.out) HU.out.symm);go_wp2
      go_ret
      exact ⟨by rw [HF.out]; rfl, HO3.out⟩
     | true =>
      have HLE2 : Hid (∀ (i : Nat) x z, i + 1 < k + 1 → t[i]? = some x → t[i + 1]? = some z → lessB x z = true) := Hd (fun i x z hi hx hz => by
       by_cases h : i + 1 < k
       ·exact HLE.out i x z h hx hz
       ·obtain rfl : i = j := by have := HJ.out; omega
        rw [HY.out] at hx;obtain rfl := Option.some.inj hx;rw [← HJ.out, HLK.out] at hz;obtain rfl := Option.some.inj hz;exact HU.out.symm)
      go_wp2
      go_roundw
      case rel => exact ⟨k + 1, by go_num, by omega, HNM2, HLE2, HO3⟩
      case measure => simp [intOf]; omega
  ·have hkn : k = n := by omega
   subst hkn;have hd : decide ((k : Int) < (k : Int)) = false := by simp
   have HF : Hid (tabB t = true) := Hd ((tab_iff t).2 ⟨fun j x hx => HNM.out j x (by rw [← HN.out]; exact (List.getElem?_eq_some_iff.1 hx).1) hx, fun j x y hx hy => HLE.out j x y (by rw [← HN.out]; exact (List.getElem?_eq_some_iff.1 hy).1) hx hy⟩);go_wp2
   go_ret
   exact ⟨by rw [HF.out]; rfl, HO.out⟩
end Go.Proofs.YtbiclliooidkjaaGreatDoor
namespace Go.Proofs.YtbiclliooidkjaaGreatDoor
open Go.RowKit
def mayB (k n : Int) : Bool := decide (k = 1) || (decide (k = 0 ∨ k = 2) && decide (n = 0))
theorem ret_boolv {a b : Bool} (h : a = b) : Ending.returned (.bool a) = .returned (.bool b) := by rw [h]
theorem vmay_any (k n : Int) (w : World) : Calls Tryz.prog 64 #[.agg #[.int .i64 k, .int .i64 n]] w fun e w' => e = .returned (.bool (mayB k n)) ∧ Only [] w w' := by
 unfold mayB
 by_cases h1 : k = 1
 ·subst h1;go_enter Tryz.func64, Tryz.ntmps64;go_wp2
  go_ret
  exact ⟨by simp, (Only.refl _ _).alloc _⟩
 ·have h1' : (k == 1) = false := by simp [h1]
  have H1 := Hd h1;clear h1
  by_cases h0 : k = 0
  ·subst h0;go_enter Tryz.func64, Tryz.ntmps64;go_wp2
   go_ret
   exact ⟨ret_boolv (by simp; try (rw [Bool.eq_iff_iff]; simp)), (Only.refl _ _).alloc _⟩
  ·have h0' : (k == 0) = false := by simp [h0]
   have H0 := Hd h0;clear h0
   by_cases h2 : k = 2
   ·subst h2;go_enter Tryz.func64, Tryz.ntmps64;go_wp2
    go_ret
    exact ⟨ret_boolv (by simp; try (rw [Bool.eq_iff_iff]; simp)), (Only.refl _ _).alloc _⟩
   ·have h2' : (k == 2) = false := by simp [h2]
    have H2 := Hd h2;clear h2;go_enter Tryz.func64, Tryz.ntmps64;go_wp2
    go_ret
    exact ⟨ret_boolv (by simp [H0.out, H1.out, H2.out]), (Only.refl _ _).alloc _⟩
open Go.Lib hiding intOf
attribute [local go_sem ↓] Go.wp_at_zero Go.wp_at_succ
def idxI (l : List Int) (x : Int) : Int := match l.findIdx? (fun y => decide (x = y)) with | some i => (i : Int) | none => -1
theorem idxI_some {l : List Int} {x : Int} {k : Nat} (hk : l[k]? = some x) (hn : ∀ j y, j < k → l[j]? = some y → x ≠ y) : idxI l x = k := by
 unfold idxI;have : l.findIdx? (fun y => decide (x = y)) = some k := by
  rw [List.findIdx?_eq_some_iff_getElem];obtain ⟨h1, h2⟩ := List.getElem?_eq_some_iff.1 hk;refine ⟨h1, by rw [h2]; simp, fun j hj => ?_⟩;have := hn j _ hj (List.getElem?_eq_getElem (by omega))
  simpa using this
 rw [this]
theorem idxI_none {l : List Int} {x : Int} (hn : ∀ (j : Nat) y, l[j]? = some y → x ≠ y) : idxI l x = -1 := by
 unfold idxI;have : l.findIdx? (fun y => decide (x = y)) = none := by
  rw [List.findIdx?_eq_none_iff];intro y hy;obtain ⟨j, hj⟩ := List.mem_iff_getElem?.1 hy
  simpa using hn j y hj
 rw [this]
theorem idxI_ge (l : List Int) (x : Int) : decide (0 ≤ idxI l x) = decide (x ∈ l) := by
 unfold idxI
 cases h : l.findIdx? (fun y => decide (x = y)) with
 | none =>
  rw [List.findIdx?_eq_none_iff] at h;have : x ∉ l := fun hm => by simpa using h x hm
  simp [this]
 | some i =>
  rw [List.findIdx?_eq_some_iff_getElem] at h;obtain ⟨h1, h2, -⟩ := h;have : x ∈ l := by
   have e : x = l[i] := by simpa using h2
   rw [e];exact List.getElem_mem h1
  simp [this]
theorem indexI_any (A : Option Addr) (n c B : Nat) (zs : List Int) (x : Int) (w : World) (hn : zs.length = n) (hnm : n ≤ 1000000) (hA : Row w B A (zs.map (Value.int .i64))) :
  Calls Tryz.prog 84 #[.slice A n c, .int .i64 x] w fun e w' => e = .returned (.int .i64 (idxI zs x)) ∧ w = w' := by
 have HA := Hd hA;have HN := Hd hn;clear hA hn;go_enter Tryz.func84, Tryz.ntmps84;go_wp2_with fail
 go_loopw [8] (fun iv wr => ∃ k : Nat, iv = .int .i64 k ∧ k ≤ n ∧ Hid (∀ j y, j < k → zs[j]? = some y → x ≠ y) ∧ wr = w) (fun iv _ => n - (intOf iv).toNat)
 case atStart => exact ⟨0, rfl, by omega, Hd (fun j y h => by omega), rfl⟩
 case round =>
  obtain ⟨k, rfl, hk, hno, rfl⟩ := hrel
  by_cases hlt : k < n
  ·obtain ⟨b, off, rfl, -, hbw, hc⟩ := HA.out.open_ (k := k) (by rw [List.length_map, HN.out]; exact hlt);obtain ⟨y, hy⟩ : ∃ y, zs[k]? = some y := ⟨_, List.getElem?_eq_getElem (by rw [HN.out]; exact hlt)⟩;have hcy : wr.cell? ⟨b, off + k, none⟩ = some (.int .i64 y) := hc k _ (by rw [List.getElem?_map, hy]; rfl);have h01 : (k : Int) < (n : Int) := by omega
   have hk0 : (0 : Int) ≤ (k : Int) := Int.natCast_nonneg _;have hwk : IntKind.i64.wrap ((k : Int) + 1) = (k : Int) + 1 := IntWalk.i64_in _ (by omega);have HY := Hd hy;clear hc hy
   by_cases hxy : x = y
   ·subst hxy;go_wp2
    go_ret
    exact ⟨by rw [idxI_some HY.out hno.out]; rfl, rfl⟩
   ·have hb : (x == y) = false := by simpa using hxy
    have HXY := Hd hxy;clear hxy;go_wp2
    go_roundw
    case rel =>
     refine ⟨k + 1, by go_num, by omega, Hd (fun j y' hj hy' => ?_), trivial⟩
     by_cases h : j < k
     ·exact hno.out j y' h hy'
     ·obtain rfl : j = k := by omega
      rw [HY.out] at hy';obtain rfl := Option.some.inj hy';exact HXY.out
    case measure => simp [intOf]; omega
  ·have hkn : k = n := by omega
   subst hkn;have hd : decide ((k : Int) < (k : Int)) = false := by simp
   have H : Hid (idxI zs x = -1) := Hd (idxI_none fun j y hy => hno.out j y (by rw [← HN.out]; exact (List.getElem?_eq_some_iff.1 hy).1) hy);go_wp2
   go_ret
   exact ⟨by rw [H.out]; rfl, rfl⟩
theorem contI_any (A : Option Addr) (n c B : Nat) (zs : List Int) (x : Int) (w : World) (hn : zs.length = n) (hnm : n ≤ 1000000) (hA : Row w B A (zs.map (Value.int .i64))) :
  Calls Tryz.prog 63 #[.slice A n c, .int .i64 x] w fun e w' => e = .returned (.bool (decide (x ∈ zs))) ∧ w = w' := by
 have HI := Hd (indexI_any A n c B zs x w hn hnm hA);have HG := Hd (idxI_ge zs x);generalize idxI zs x = i at *;go_enter Tryz.func63, Tryz.ntmps63;go_wp2_with fail
 refine (HI.out).mono ?_;rintro e w1 ⟨rfl, rfl⟩;go_wp2
 go_ret
 exact ⟨by rw [← HG.out]; rfl, rfl⟩
def fateB (f : Int) : Bool := decide (1 ≤ f ∧ f ≤ 3)
theorem fate_any (f : Int) (w : World) : Calls Tryz.prog 62 #[.int .i64 f] w fun e w' => e = .returned (.bool (fateB f)) ∧ w = w' := by
 by_cases h1 : f = 1
 ·subst h1;go_enter Tryz.func62, Tryz.ntmps62;go_wp2
  go_ret
  exact ⟨rfl, rfl⟩
 ·have h1' : (f == 1) = false := by simpa using h1
  by_cases h2 : f = 2
  ·subst h2;go_enter Tryz.func62, Tryz.ntmps62;go_wp2
   go_ret
   exact ⟨rfl, rfl⟩
  ·have h2' : (f == 2) = false := by simpa using h2
   by_cases h3 : f = 3
   ·subst h3;go_enter Tryz.func62, Tryz.ntmps62;go_wp2
    go_ret
    exact ⟨rfl, rfl⟩
   ·have h3' : (f == 3) = false := by simpa using h3
    have HF : Hid (fateB f = false) := Hd (decide_eq_false (by omega));clear h1 h2 h3;go_enter Tryz.func62, Tryz.ntmps62;go_wp2
    go_ret
    exact ⟨by rw [HF.out]; rfl, rfl⟩
def namesB (l : List ByteArray) (m : Nat) : Bool := decide (l.length ≤ m) && tabB l
theorem names_any (A : Option Addr) (n c B m : Nat) (t : List ByteArray) (w : World) (hn : t.length = n) (hnm : n ≤ 1000000) (hz : ∀ z ∈ t, z.size ≤ 65537) (hA : Row w B A (strs t)) (hT : UTabs w) :
  Calls Tryz.prog 40 #[.slice A n c, .int .i64 (m : Int)] w fun e w' => e = .returned (.bool (namesB t m)) ∧ Only [] w w' := by
 have HI := Hd (istab_any A n c B t w hn (by omega) (fun z hz' => by have := hz z hz'; omega) hA hT);unfold namesB;rw [hn];generalize tabB t = b at *;clear hz hA hT hn
 by_cases hle : n ≤ m
 ·have h1 : decide ((n : Int) ≤ (m : Int)) = true := by simp; omega
  have h2 : decide (n ≤ m) = true := by simpa using hle
  go_enter Tryz.func40, Tryz.ntmps40;go_wp2_with fail
  refine (HI.out).mono ?_;rintro e w1 ⟨rfl, O1⟩;have HO := Hd O1;clear O1;go_wp2
  go_ret
  exact ⟨by simp [hle], HO.out⟩
 ·have h1 : decide ((n : Int) ≤ (m : Int)) = false := by simp; omega
  have h2 : decide (n ≤ m) = false := by simpa using hle
  go_enter Tryz.func40, Tryz.ntmps40;go_wp2
  go_ret
  exact ⟨by simp [hle], Only.refl _ _⟩
def txB (ns : Nat) (t : Tx) : Bool := decide (0 ≤ t.s ∧ t.s < ns) && (fateB t.f && decide (t.ops.length ≤ 20))
def cntL (m : Nat) (l : List Int) : List Int := (List.range m).map fun i : Nat => ((l.countP fun s => decide (s = (i : Int)) : Nat) : Int)
def cntC (m : Nat) (l : List Int) : Array Value := ((cntL m l).map (Value.int .i64)).toArray
theorem cntL_len (m : Nat) (l : List Int) : (cntL m l).length = m := by simp [cntL]
theorem cntC_size (m : Nat) (l : List Int) : (cntC m l).size = m := by simp [cntC, cntL]
theorem cntC_at (m : Nat) (l : List Int) (i : Nat) (hi : i < m) : (cntC m l)[i]? = some (.int .i64 ((l.countP fun s => decide (s = (i : Int)) : Nat) : Int)) := by
 simp [cntC, cntL, hi]
theorem cntC_snoc (m : Nat) (l : List Int) (i : Nat) (hi : i < m) : cntC m (l ++ [(i : Int)]) = (cntC m l).setIfInBounds i (.int .i64 (((l.countP fun s => decide (s = (i : Int)) : Nat) : Int) + 1)) := by
 refine Array.ext_getElem? fun j => ?_
 by_cases hj : j < m
 ·rw [cntC_at _ _ _ hj, Array.getElem?_setIfInBounds]
  by_cases hij : i = j
  ·subst hij;rw [if_pos rfl, if_pos (by rw [cntC_size]; exact hi)];simp
  ·rw [if_neg hij, cntC_at _ _ _ hj];have : ((i : Int) = (j : Int)) = False := by simp; omega
   simp [this]
 ·rw [Array.getElem?_eq_none (by rw [cntC_size]; omega), Array.getElem?_eq_none (by simp [cntC_size]; omega)]
theorem cntL_zero (m : Nat) (l : List Int) (n : Nat) (hn : n ≤ m) : decide ((0 : Int) ∈ (cntL m l).take n) = !((List.range n).all fun i : Nat => decide ((i : Int) ∈ l)) := by
 have e : (cntL m l).take n = cntL n l := by
  unfold cntL;rw [← List.map_take, List.take_range, Nat.min_eq_left hn]
 rw [e]
 by_cases h : ∀ i, i < n → ((i : Nat) : Int) ∈ l
 ·have h1 : ((List.range n).all fun i : Nat => decide ((i : Int) ∈ l)) = true := by simpa using h
  rw [h1];simp only [Bool.not_true, decide_eq_false_iff_not];intro hm;unfold cntL at hm;obtain ⟨i, hi, he⟩ := List.mem_map.1 hm;have hin := h i (List.mem_range.1 hi);have : 0 < l.countP fun s => decide (s = (i : Int)) := List.countP_pos_iff.2 ⟨_, hin, by simp⟩;omega
 ·have h1 : ((List.range n).all fun i : Nat => decide ((i : Int) ∈ l)) = false := by
   rw [List.all_eq_false];simp only [Classical.not_forall] at h;obtain ⟨i, hi, hm⟩ := h;exact ⟨i, List.mem_range.2 hi, by simpa using hm⟩
  rw [h1];simp only [Bool.not_false, decide_eq_true_eq];simp only [Classical.not_forall] at h;obtain ⟨i, hi, hm⟩ := h;refine List.mem_map.2 ⟨i, List.mem_range.2 hi, ?_⟩;have : l.countP (fun s => decide (s = (i : Int))) = 0 := by
   rw [List.countP_eq_zero];intro a ha hd;have : a = (i : Int) := by simpa using hd
   exact hm (this ▸ ha)
  rw [this]
  rfl
end Go.Proofs.YtbiclliooidkjaaGreatDoor
