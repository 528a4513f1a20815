/- Parts. -/
import Derived.Test.YtojlaphklkomfaaDoorPairMakesCardK42
import Derived.Test.YtojlaphklkomfaaDoorPairMakesCardK43
import Derived.Test.YtojlaphklkomfaaDoorPairMakesCardK33
import Derived.Test.YtojlaphklkomfaaDoorPairMakesCardK35
set_option maxRecDepth 10000
set_option maxHeartbeats 16000000
set_option linter.unusedVariables false
set_option linter.unusedSimpArgs false
namespace Go.Proofs.YtojlaphklkomfaaDoor
open Go.RowKit
open Go.Lib hiding intOf
attribute [local go_sem ↓] Go.wp_at_zero Go.wp_at_succ
theorem short8_le {l : List Ev6} : ∀ x ∈ few8 l, x.s.size ≤ 65537 ∧ x.y.size ≤ 65537 := by
 intro x hx;obtain ⟨y, -, rfl⟩ := List.mem_map.1 hx;have h1 := short8_size y.s;have h2 := short8_size y.y;exact ⟨by show (short8 y.s).size ≤ _; omega, by show (short8 y.y).size ≤ _; omega⟩
theorem rtab_any (A : Option Addr) (n c B : Nat) (t : List ByteArray) (w : World) (hn : t.length = n) (hnm : n ≤ 9223372036854775806) (hz : ∀ z ∈ t, z.size ≤ 65537) (hA : Row w B A (strs t)) :
  Calls Tryd.prog 30 #[.slice A n c] w fun e w' => e = .returned (.bool (tabB t)) ∧ Only [] w w' := by
 have HIS := Hd (fun (k : Nat) z w' (hz' : t[k]? = some z) => ris_any z w' (hz z (List.mem_of_getElem? hz')));have HLS := Hd (fun (k j : Nat) y z w' (hy : t[j]? = some y) (hz' : t[k]? = some z) => (rless_any y z w' (hz y (List.mem_of_getElem? hy)) (hz z (List.mem_of_getElem? hz')) : Calls Tryd.prog 29 #[.string y, .string z] w' fun e w'' => e = .returned (.bool (lessB y z)) ∧ Only [] w' w''));have HN := Hd hn;have HROW := Hd hA;clear hn hz hA;go_enter Tryd.func30, Tryd.ntmps30;go_wp2_with fail
 go_loopw [3] (fun iv wr => ∃ (k : Nat), iv = .int .i64 k ∧ k ≤ n ∧ Hid (∀ (j : Nat) x, j < k → t[j]? = some x → isName x = true) ∧ Hid (∀ (j : Nat) x y, j + 1 < k → t[j]? = some x → t[j + 1]? = some y → lessB x y = true) ∧ Hid (Only [] w wr)) (fun iv _ => n - (intOf iv).toNat)
 case atStart => exact ⟨0, rfl, by omega, Hd (fun j x h => by omega), Hd (fun j x y h => by omega), Hd (Only.refl [] w)⟩
 case round =>
  obtain ⟨k, rfl, hk, HNM, HLE, HO⟩ := hrel
  by_cases hlt : k < n
  ·have h01 : (k : Int) < (n : Int) := by omega
   have hk0 : (0 : Int) ≤ (k : Int) := Int.natCast_nonneg _;have hwk : IntKind.i64.wrap ((k : Int) + 1) = (k : Int) + 1 := IntWalk.i64_in _ (by omega);obtain ⟨b, off, rfl, hbB, hbw, hcell⟩ := HROW.out.open_ (k := k) (by rw [strs, List.length_map, HN.out]; exact hlt);obtain ⟨l, hl⟩ : ∃ l, t[k]? = some l := ⟨_, List.getElem?_eq_getElem (by rw [HN.out]; exact hlt)⟩;have hup := fun (j : Nat) (x : ByteArray) (hx : t[j]? = some x) => ((HO.out.cell (p := ⟨b, off + j, none⟩) hbw (by simp)).trans (hcell j _ (by rw [strs, List.getElem?_map, hx]; rfl)) : wr.cell? ⟨b, off + j, none⟩ = some (.string x));have HC1 := Hd (hup k l hl);have hbr : b < wr.heap.size := by have := HO.out.size; omega
   have HI := Hd (fun w' => HIS.out k l w' hl);have HLK := Hd hl;obtain ⟨v, hv⟩ : ∃ v, v = isName l := ⟨_, rfl⟩;rw [← hv] at HI;have HV := Hd hv
   cases v with
   | false =>
    have HF : Hid (tabB t = false) := Hd (tab_bad1 HLK.out HV.out.symm);clear hcell hl hv hup;go_wp2_with fail
    refine rg1 [] [] wr ?_;refine tQ 0 (h := tQ 1 (h := tQ 2 (h := ?_)));refine trd (i := 3) (v := ?_) 0 ?_ ?_;rotate_left
    ·(intro wq hSw; have hcl := (hSw.cell (p := ⟨b, off + k, none⟩) hbr (by simp)).trans HC1.out; clear hSw; go_simp; try with_reducible rfl)
    (try simp only [tdz]);refine tst (i := 4) fun K hK => ?_;go_simp;refine (HI.out _).mono ?_;rintro e w6 ⟨rfl, O6⟩;refine kOut hK (((Only.refl [] wr).drew).trans O6) (h := ?_);clear hK K;refine tQ 5 (h := tQ 6 (h := tiq 7 (h := tiq 8 (h := tiq 9 (h := tiq 10 (h := tiq 11 (h := tiq 12 (h := tiq 13 (h := tiq 14 (h := tiq 15 (h := tiq 16 (h := tiq 17 (h := tiq 18 (h := tiq 19 (h := tiq 20 (h := tiq 21 (h := tQ 22 (h := ?_))))))))))))))))));refine tdn ?_;have HNW := Hd (HO.out.trans (((Only.refl [] wr).drew).trans O6));go_wp2
    go_ret
    exact ⟨by rw [HF.out]; rfl, HNW.out⟩
   | true =>
    have HNM2 : Hid (∀ (j : Nat) x, j < k + 1 → t[j]? = some x → isName x = true) := Hd (fun j x hj hx => by
     by_cases h : j < k
     ·exact HNM.out j x h hx
     ·obtain rfl : j = k := by omega
      rw [HLK.out] at hx;obtain rfl := Option.some.inj hx;exact HV.out.symm)
    by_cases hk00 : k = 0
    ·subst hk00;have HC0 : Hid (wr.cell? ⟨b, off, none⟩ = some (.string l)) := Hd HC1.out;have HLE2 : Hid (∀ (j : Nat) x y, j + 1 < 0 + 1 → t[j]? = some x → t[j + 1]? = some y → lessB x y = true) := Hd (fun j x y h => by omega);clear hcell hl hv hup;go_wp2_with fail
     refine rg1 [] [] wr ?_;refine tQ 0 (h := tQ 1 (h := tQ 2 (h := ?_)));refine trd (i := 3) (v := ?_) 0 ?_ ?_;rotate_left
     ·(intro wq hSw; have hcl := (hSw.cell (p := ⟨b, off, none⟩) hbr (by simp)).trans HC0.out; clear hSw; go_simp; try with_reducible rfl)
     (try simp only [tdz]);refine tst (i := 4) fun K hK => ?_;go_simp;refine (HI.out _).mono ?_;rintro e w6 ⟨rfl, O6⟩;refine kOut hK (((Only.refl [] wr).drew).trans O6) (h := ?_);clear hK K;refine tQ 5 (h := tQ 6 (h := tQ 7 (h := tQ 8 (h := tQ 9 (h := tiq 10 (h := tiq 11 (h := tiq 12 (h := tiq 13 (h := tiq 14 (h := tiq 15 (h := tiq 16 (h := tiq 17 (h := tiq 18 (h := tiq 19 (h := tiq 20 (h := tQ 21 (h := tQ 22 (h := ?_))))))))))))))))));refine tdn ?_;have HNW := Hd (HO.out.trans (((Only.refl [] wr).drew).trans O6));go_wp2
     go_roundw
     case rel => exact ⟨0 + 1, by first | rfl | go_num, by omega, HNM2, HLE2, HNW⟩
     case measure => simp [intOf]; omega
    ·obtain ⟨j, hj⟩ : ∃ j, k = j + 1 := ⟨k - 1, by omega⟩;have hkp : decide ((0 : Int) < (k : Int)) = true := decide_eq_true (by omega);have hkp2 : decide (0 < k) = true := decide_eq_true (by omega);have hwj : IntKind.i64.wrap ((k : Int) - 1) = (j : Int) := by rw [IntWalk.i64_in _ (by omega)]; omega
     have hj0 : (0 : Int) ≤ (j : Int) := Int.natCast_nonneg _;have hj1 : (j : Int) < (n : Int) := by omega
     obtain ⟨y, hy⟩ : ∃ y, t[j]? = some y := ⟨_, List.getElem?_eq_getElem (by rw [HN.out]; omega)⟩;have HC2 := Hd (hup j y hy);have HJ := Hd hj;have HY := Hd hy;have HLS1 := Hd (fun w' => HLS.out k j y l w' hy HLK.out);obtain ⟨u, hu⟩ : ∃ u, u = lessB y l := ⟨_, rfl⟩;have hu2 : u = lessL (runesL (by_ y)) (runesL (by_ l)) := hu;rw [← hu2] at HLS1;clear hu2;have HU := Hd hu;clear hj hy hu hcell hl hv hup
     cases u with
     | false =>
      have HF : Hid (tabB t = false) := Hd (tab_bad2 HY.out (by rw [← HJ.out]; exact HLK.out) HU.out.symm);go_wp2_with fail
      have RD0 := Hd fun wq (hSw : Only [] wr wq) => aI ((hSw.cell (p := ⟨b, off + k, none⟩) hbr (by simp)).trans HC1.out) ((hSw.cell (p := ⟨b, off + j, none⟩) hbr (by simp)).trans HC2.out);refine rg1 [] [] wr ?_;refine tQ 0 (h := tQ 1 (h := tQ 2 (h := trq 3 0 RD0 (h := ?_))));refine tst (i := 4) fun K hK => ?_;go_simp;refine (HI.out _).mono ?_;rintro e w6 ⟨rfl, O6⟩;refine kOut hK (((Only.refl [] wr).drew).trans O6) (h := ?_);clear hK K;refine tQ 5 (h := tQ 6 (h := tQ 7 (h := tQ 8 (h := tQ 9 (h := tQ 10 (h := tQ 11 (h := tQ 12 (h := tQ 13 (h := trq 14 0 RD0 (h := tQ 15 (h := tQ 16 (h := tQ 17 (h := trq 18 0 RD0 (h := ?_))))))))))))));refine tst (i := 19) fun K hK => ?_;go_simp;refine (HLS1.out _).mono ?_;rintro e w7 ⟨rfl, O7⟩;refine kOut hK ((((Only.refl [] wr).drew).trans O6).trans O7) (h := ?_);clear hK K;refine tQ 20 (h := tQ 21 (h := tQ 22 (h := ?_)));refine tdn ?_;have HNW := Hd (HO.out.trans ((((Only.refl [] wr).drew).trans O6).trans O7));go_wp2
      go_ret
      exact ⟨by rw [HF.out]; rfl, HNW.out⟩
     | true =>
      have HLE2 : Hid (∀ (i : Nat) x z, i + 1 < k + 1 → t[i]? = some x → t[i + 1]? = some z → lessB x z = true) := Hd (fun i x z hi hx hz => by
       by_cases h : i + 1 < k
       ·exact HLE.out i x z h hx hz
       ·obtain rfl : i = j := by have := HJ.out; omega
        rw [HY.out] at hx;obtain rfl := Option.some.inj hx;rw [← HJ.out, HLK.out] at hz;obtain rfl := Option.some.inj hz;exact HU.out.symm)
      go_wp2_with fail
      have RD0 := Hd fun wq (hSw : Only [] wr wq) => aI ((hSw.cell (p := ⟨b, off + k, none⟩) hbr (by simp)).trans HC1.out) ((hSw.cell (p := ⟨b, off + j, none⟩) hbr (by simp)).trans HC2.out);refine rg1 [] [] wr ?_;refine tQ 0 (h := tQ 1 (h := tQ 2 (h := trq 3 0 RD0 (h := ?_))));refine tst (i := 4) fun K hK => ?_;go_simp;refine (HI.out _).mono ?_;rintro e w6 ⟨rfl, O6⟩;refine kOut hK (((Only.refl [] wr).drew).trans O6) (h := ?_);clear hK K;refine tQ 5 (h := tQ 6 (h := tQ 7 (h := tQ 8 (h := tQ 9 (h := tQ 10 (h := tQ 11 (h := tQ 12 (h := tQ 13 (h := trq 14 0 RD0 (h := tQ 15 (h := tQ 16 (h := tQ 17 (h := trq 18 0 RD0 (h := ?_))))))))))))));refine tst (i := 19) fun K hK => ?_;go_simp;refine (HLS1.out _).mono ?_;rintro e w7 ⟨rfl, O7⟩;refine kOut hK ((((Only.refl [] wr).drew).trans O6).trans O7) (h := ?_);clear hK K;refine tQ 20 (h := tQ 21 (h := tQ 22 (h := ?_)));refine tdn ?_;have HNW := Hd (HO.out.trans ((((Only.refl [] wr).drew).trans O6).trans O7));go_wp2
      go_roundw
      case rel => exact ⟨k + 1, by go_num, by omega, HNM2, HLE2, HNW⟩
      case measure => simp [intOf]; omega
  ·have hkn : k = n := by omega
   subst hkn;have hd : decide ((k : Int) < (k : Int)) = false := by simp
   have HF : Hid (tabB t = true) := Hd ((tab_iff t).2 ⟨fun j x hx => HNM.out j x (by rw [← HN.out]; exact (List.getElem?_eq_some_iff.1 hx).1) hx, fun j x y hx hy => HLE.out j x y (by rw [← HN.out]; exact (List.getElem?_eq_some_iff.1 hy).1) hx hy⟩);go_wp2
   go_ret
   exact ⟨by rw [HF.out]; rfl, HO.out⟩
theorem rfind_any (A : Option Addr) (n c B : Nat) (t : List ByteArray) (s : ByteArray) (w : World) (hn : t.length = n) (hnm : n ≤ 9223372036854775806) (hz : ∀ z ∈ t, z.size ≤ 65537) (hA : Row w B A (strs t)) :
  Calls Tryd.prog 20 #[.slice A n c, .string s] w fun e w' => e = .returned (.tuple #[.int .i64 (max (posB t s) 0), .bool (decide (0 ≤ posB t s))]) ∧ Only [] w w' := by
 have HI := Hd (fun w' (h : Only [] w w') => rtab_any A n c B t w' hn hnm hz (hA.only h (by simp)));obtain ⟨p, hp⟩ : ∃ p, p = posB t s := ⟨_, rfl⟩;rw [← hp];unfold posB at hp;obtain ⟨v, hv⟩ : ∃ v, v = tabB t := ⟨_, rfl⟩;rw [← hv] at HI hp;have HP := Hd hp;have HN := Hd hn;have HROW := Hd hA;clear hp hv hz hA hn;go_enter Tryd.func20, Tryd.ntmps20;go_wp2_with fail
 go_loopw [6] (fun iv wr => ∃ (k : Nat), iv = .int .i64 k ∧ k ≤ n ∧ Hid (k = 0 ∨ v = true) ∧ Hid (∀ (j : Nat), j < k → ∀ y, t[j]? = some y → y ≠ s) ∧ Hid (Only [] w wr)) (fun iv _ => n - (intOf iv).toNat)
 case atStart => exact ⟨0, rfl, by omega, Hd (.inl rfl), Hd (fun j h => by omega), Hd (Only.refl [] w)⟩
 case round =>
  obtain ⟨k, rfl, hk, HV, HNE, HO⟩ := hrel
  by_cases hlt : k < n
  ·have h01 : (k : Int) < (n : Int) := by omega
   have hk0 : (0 : Int) ≤ (k : Int) := Int.natCast_nonneg _;have hwk : IntKind.i64.wrap ((k : Int) + 1) = (k : Int) + 1 := IntWalk.i64_in _ (by omega)
   cases v with
   | false =>
    have hpf : p = -1 := by rw [HP.out, if_neg (by simp)]
    subst hpf;go_wp2_with fail
    refine (HI.out _ HO.out).mono ?_;rintro e w2 ⟨rfl, hO2⟩;have HO2 := Hd (HO.out.trans hO2);clear hO2;go_wp2
    go_ret2
    exact ⟨rfl, HO2.out⟩
   | true =>
    have HPT : Hid (p = idxOfS t s) := Hd (by rw [HP.out, if_pos rfl]);obtain ⟨b, off, rfl, hbB, hbw, hcell⟩ := HROW.out.open_ (k := k) (by rw [strs, List.length_map, HN.out]; exact hlt);obtain ⟨l, hl⟩ : ∃ l, t[k]? = some l := ⟨_, List.getElem?_eq_getElem (by rw [HN.out]; exact hlt)⟩;have HCK := Hd (hcell k _ (by rw [strs, List.getElem?_map, hl]; rfl));have HLK := Hd hl;clear hcell hl;go_wp2_with fail
    refine (HI.out _ HO.out).mono ?_;rintro e w2 ⟨rfl, hO2⟩;have HO2 := Hd (HO.out.trans hO2);have hck : w2.cell? ⟨b, off + k, none⟩ = some (.string l) := (HO2.out.cell (p := ⟨b, off + k, none⟩) hbw (by simp)).trans HCK.out;clear hO2
    by_cases hls : l = s
    ·subst hls;have hxx : (l.toList == l.toList) = true := by simp
     have hpk : p = (k : Int) := by rw [HPT.out, idx_first HLK.out HNE.out]
     have hmx : max (k : Int) 0 = (k : Int) := by omega
     have hd : decide ((0 : Int) ≤ (k : Int)) = true := decide_eq_true (by omega);subst hpk;have HMX : Hid (Ending.returned (.tuple #[.int .i64 (k : Int), .bool true]) = Ending.returned (.tuple #[.int .i64 (max (k : Int) 0), .bool (decide (0 ≤ (k : Int)))])) := Hd (by rw [hmx, hd]);clear hmx hd;go_wp2
     go_ret2
     exact ⟨HMX.out, HO2.out⟩
    ·have hxx : (l.toList == s.toList) = false := text_ne (l := s.toList) (by
      rw [Lib.toList_data];exact fun e => hls (e.trans (by_inj List.toList_toArray)))
     have HNE2 : Hid (∀ (j : Nat), j < k + 1 → ∀ y, t[j]? = some y → y ≠ s) := Hd (fun j hj y hy => by
      by_cases h : j < k
      ·exact HNE.out j h y hy
      ·obtain rfl : j = k := by omega
       rw [HLK.out] at hy;obtain rfl := Option.some.inj hy;exact hls)
     clear hls;go_wp2
     go_roundw
     case rel => exact ⟨k + 1, by go_num, by omega, Hd (.inr (by first | rfl | trivial)), HNE2, HO2⟩
     case measure => simp [intOf]; omega
  ·have hkn : k = n := by omega
   subst hkn;have hd : decide ((k : Int) < (k : Int)) = false := by simp
   have hpf : p = -1 := by
    rw [HP.out]
    split
    ·exact idx_none (fun j y hy => HNE.out j (by rw [← HN.out]; exact (List.getElem?_eq_some_iff.1 hy).1) y hy)
    ·rfl
   subst hpf;go_wp2
   go_ret2
   exact ⟨rfl, HO.out⟩
end Go.Proofs.YtojlaphklkomfaaDoor
