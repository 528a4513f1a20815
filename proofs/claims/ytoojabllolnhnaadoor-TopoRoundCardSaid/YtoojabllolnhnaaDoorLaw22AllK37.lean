/- Parts. -/
import Derived.Test.YtoojabllolnhnaaDoorLaw22AllK30
import Derived.Test.YtoojabllolnhnaaDoorLaw22AllK36
set_option maxRecDepth 10000
set_option maxHeartbeats 16000000
set_option linter.unusedVariables false
set_option linter.unusedSimpArgs false
namespace Go.Proofs.YtoojabllolnhnaaDoor
open Go.RowKit
attribute [local go_sem ↓] Go.wp_at_zero Go.wp_at_succ
def freeP (S : List Int) (a : Int) (e : Int × Int) : Bool := !decide (e.2 = a) || decide (e.1 ∈ S)
theorem rfree_any (n a b : Nat) (A : Option Addr) (m c B : Nat) (l : List (Int × Int)) (K : List Int) (w : World) (hr : Row w B A (edgeC l)) (hl : l.length = m) (hm : m ≤ 100000) (wf : WfE n l) (ha : a < n) (hb : Blk w b 4 (markC n K)) :
  Calls Tryd.prog 24 #[.int .i64 (a : Int), .slice (some ⟨b, 0, none⟩) n n, .slice A m c] w fun e w' => e = .returned (.bool (freeB l K (a : Int))) ∧ w = w' := by
 have HR := Hd hr;have HL := Hd hl;have HWF := Hd wf;have HB := Hd hb;have k0 := (hb.at_ a).trans (markC_at n K a ha);have lb := hb.lt;have ha0 : (0 : Int) ≤ (a : Int) := Int.natCast_nonneg _;have han : (a : Int) < (n : Int) := by omega
 obtain ⟨r, hr'⟩ : ∃ r, r = freeB l K (a : Int) := ⟨_, rfl⟩;rw [← hr'];have HRR : Hid (r = (!decide ((a : Int) ∈ K) && l.all (freeP K a))) := Hd hr';obtain ⟨ka, hka⟩ : ∃ ka, ka = decide ((a : Int) ∈ K) := ⟨_, rfl⟩;rw [← hka] at k0 HRR;clear hr hl wf hb hr' hka
 cases ka with
 | true =>
  have HE : Hid (r = false) := Hd HRR.out;clear HRR;go_enter Tryd.func24, Tryd.ntmps24;go_wp2
  go_ret
  exact ⟨by rw [HE.out]; rfl, rfl⟩
 | false =>
  rw [Bool.not_false, Bool.true_and] at HRR;go_enter Tryd.func24, Tryd.ntmps24;go_wp2_with fail
  clear k0
  go_loopw [7] (fun iv wr => ∃ i : Nat, iv = .int .i64 (i : Int) ∧ i ≤ m ∧ Hid ((l.take i).all (freeP K a) = true) ∧ Hid (w = wr)) (fun iv _ => m - (intOf iv).toNat)
  case atStart => exact ⟨0, rfl, by omega, Hd rfl, Hd rfl⟩
  case round =>
   obtain ⟨i, rfl, hi, hal, hw⟩ := hrel;obtain rfl := hw.out
   by_cases hlt : i < m
   ·obtain ⟨e, he⟩ : ∃ e, l[i]? = some e := ⟨_, List.getElem?_eq_getElem (by rw [HL.out]; exact hlt)⟩;obtain ⟨ex, ey, rfl, hxn, hyn⟩ := HWF.out e (List.mem_of_getElem? he);obtain ⟨be, off, rfl, -, hbw, hcell⟩ := HR.out.open_ (k := i * 2) (by rw [edgeC_len, HL.out]; omega);have hg := edgeC_get l i _ he;have e0 := hcell _ _ hg.1;have e1 := hcell _ _ hg.2;rw [← Nat.add_assoc] at e1;dsimp only at e0 e1;have k0 := (HB.out.at_ ex).trans (markC_at n K ex hxn);have HTK : Hid ((l.take (i + 1)).all (freeP K a) = ((l.take i).all (freeP K a) && freeP K a ((ex : Int), (ey : Int)))) := Hd (by rw [List.take_add_one, he, List.all_append]; simp);have HNO : Hid (freeP K a ((ex : Int), (ey : Int)) = false → r = false) := Hd (fun h => by
     rw [HRR.out, List.all_eq_false];exact ⟨_, List.mem_of_getElem? he, by rw [h]; decide⟩)
    have h01 : (i : Int) < (m : Int) := by omega
    have hi0 : (0 : Int) ≤ (i : Int) := Int.natCast_nonneg _;have hx0 : (0 : Int) ≤ (ex : Int) := Int.natCast_nonneg _;have hxn' : (ex : Int) < (n : Int) := by omega
    have hwi : IntKind.i64.wrap ((i : Int) + 1) = (i : Int) + 1 := IntWalk.i64_in _ (by omega);have HPD : Hid (freeP K a ((ex : Int), (ey : Int)) = (!decide ((ey : Int) = (a : Int)) || decide ((ex : Int) ∈ K))) := Hd rfl;obtain ⟨kx, hkx⟩ : ∃ kx, kx = decide ((ex : Int) ∈ K) := ⟨_, rfl⟩;rw [← hkx] at k0 HPD;clear he hcell hg hkx
    by_cases hya : ey = a
    ·subst hya
     cases kx with
     | false =>
      have HE := Hd (HNO.out (by rw [HPD.out]; simp));go_wp2
      go_ret
      exact ⟨by rw [HE.out]; rfl, rfl⟩
     | true =>
      have HN : Hid ((l.take (i + 1)).all (freeP K ey) = true) := Hd (by rw [HTK.out, hal.out, HPD.out]; simp);clear HNO HTK;go_wp2
      go_roundw
      case rel => exact ⟨i + 1, by go_num, by omega, HN, Hd trivial⟩
      case measure => simp [intOf]; omega
    ·have hb : ((ey : Int) == (a : Int)) = false := by simp; omega
     have hb2 : (ey == a) = false := by simpa using hya
     have hb3 : decide (ey = a) = false := decide_eq_false hya;have HN : Hid ((l.take (i + 1)).all (freeP K a) = true) := Hd (by rw [HTK.out, hal.out, HPD.out, decide_eq_false (by omega)]; simp);clear HNO HTK hya;go_wp2
     go_roundw
     case rel => exact ⟨i + 1, by go_num, by omega, HN, Hd trivial⟩
     case measure => simp [intOf]; omega
   ·have him : i = m := by omega
    subst him;have hd : decide ((i : Int) < (i : Int)) = false := by simp
    have HE : Hid (r = true) := Hd (by rw [HRR.out, ← hal.out, List.take_of_length_le (by rw [HL.out]; exact Nat.le_refl _)]);go_wp2
    go_ret
    exact ⟨by rw [HE.out]; rfl, rfl⟩
def sLen : Value → Nat
 | .slice _ n _ => n
 | _ => 0
theorem rleast_any (n : Nat) (A : Option Addr) (m c B : Nat) (l : List (Int × Int)) (w : World) (hr : Row w B A (edgeC l)) (hl : l.length = m) (hm : m ≤ 100000) (hn : n ≤ 500) (wf : WfE n l) :
  Calls Tryd.prog 12 #[.int .i64 (n : Int), .slice A m c] w fun e w' => ∃ A' c', (e = .returned (.tuple #[.slice A' ((leastT n l).getD []).length c', .bool (leastT n l).isSome]) ∧ w'.ownsRow w.heap.size 3 1 (.slice A' ((leastT n l).getD []).length c') ((leastT n l).getD []).length (((leastT n l).getD []).map (Value.int .i64))) ∧ Only [] w w' := by
 obtain ⟨i0, hi, hz0, hz1, hz2⟩ := info_parts info_int;have HR := Hd hr;have HL := Hd hl;have HWF := Hd wf;have hmk := fun W => make_marks n hn W;obtain ⟨R, hR⟩ : ∃ R, R = leastT n l := ⟨_, rfl⟩;rw [← hR];have HRS := Hd hR;clear hr hl wf hR;go_enter Tryd.func12, Tryd.ntmps12;go_wp2_with fail
 have OA : Only [] w ((w.alloc (.cells (markC n []) 4)).alloc (.cells #[] 3)) := ((Only.refl [] w).alloc _).alloc _;have HO2 := Hd OA;have HB2 := Hd ((Blk.made w 4 (markC n [])).alloc (.cells #[] 3));have HV2 : Hid (((w.alloc (.cells (markC n []) 4)).alloc (.cells #[] 3)).ownsRow w.heap.size 3 1 (.slice (some ⟨w.heap.size + 1, 0, none⟩) 0 0) 0 []) := Hd (by
  have := World.ownsRow_lit (w.alloc (.cells (markC n []) 4)) (e := 3) (size := 1) (base := w.heap.size) #[] 0 (by simp) (by unfold maxLen; omega) rfl
  simpa using this)
 have hsb : w.heap.size < ((w.alloc (.cells (markC n []) 4)).alloc (.cells #[] 3)).heap.size := by simp; omega
 clear hmk OA;generalize ((w.alloc (.cells (markC n []) 4)).alloc (.cells #[] 3)) = w2 at *;obtain ⟨b, hb⟩ : ∃ b, b = w.heap.size := ⟨_, rfl⟩;rw [← hb] at HB2 HV2 hsb ⊢;have HBE := Hd hb;have HOB : Hid (∀ (S : List Nat) (W W' : World), (∀ i ∈ S, b ≤ i) → Only [] w W → Only S W W' → Only [] w W') := Hd (fun S W W' hS O O' => O.step O' (fun i hi hl => by have := hS i hi; omega));clear hb
 go_loopw [7] (fun ov wr => ∃ (j : Nat) (S : List Int) (A : Option Addr) (c : Nat), ov = .slice A j c ∧ j ≤ n ∧ Hid (orderT n l j = some S) ∧ Hid (Blk wr b 4 (markC n S)) ∧ Hid (wr.ownsRow b 3 1 (.slice A j c) j (S.map (Value.int .i64))) ∧ Hid (Only [] w wr)) (fun ov _ => n - sLen ov)
 case atStart => exact ⟨0, [], _, _, rfl, by omega, Hd rfl, HB2, HV2, HO2⟩
 case round =>
  obtain ⟨j, S, Ao, co, rfl, hj, hS, hB, hV, hO⟩ := hrel;clear HB2 HV2
  by_cases hlt : j < n
  ·have h01 : (j : Int) < (n : Int) := by omega
   have HFR := Hd (fun (a : Nat) (ha : a < n) => rfree_any n a b A m c B l S wr (HR.out.only hO.out (by simp)) HL.out hm HWF.out ha hB.out);obtain ⟨wo, hwo⟩ : ∃ wo : World, wo = wr := ⟨_, rfl⟩;subst hwo;go_wp2_with fail
   go_loopw [8] (fun av wr => ∃ a : Nat, av = .int .i64 (a : Int) ∧ a ≤ n ∧ Hid (∀ i, i < a → freeB l S (i : Int) = false) ∧ Hid (wo = wr)) (fun av _ => n - (intOf av).toNat)
   case atStart => exact ⟨0, rfl, by omega, Hd (fun i h => by omega), Hd rfl⟩
   case round =>
    obtain ⟨a, rfl, ha, hno, hw⟩ := hrel;obtain rfl := hw.out
    by_cases hlt2 : a < n
    ·have h02 : (a : Int) < (n : Int) := by omega
     have ha0 : (0 : Int) ≤ (a : Int) := Int.natCast_nonneg _;have hwa : IntKind.i64.wrap ((a : Int) + 1) = (a : Int) + 1 := IntWalk.i64_in _ (by omega);have HF := Hd (HFR.out a hlt2)
     cases hf : freeB l S (a : Int) with
     | false =>
      rw [hf] at HF;have HN : Hid (∀ i, i < a + 1 → freeB l S (i : Int) = false) := Hd (fun i h => by
       rcases Nat.lt_or_ge i a with h1 | h1
       ·exact hno.out i h1
       ·obtain rfl : i = a := by omega
        exact hf)
      clear hf;go_wp2_with fail
      refine (HF.out).mono ?_;rintro e w6 ⟨rfl, rfl⟩;go_wp2
      go_roundw
      case rel => exact ⟨a + 1, by go_num, by omega, HN, Hd trivial⟩
      case measure => simp [intOf]; omega
     | true =>
      rw [hf] at HF;have hnx := next_at hlt2 hf hno.out;have HS1 : Hid (orderT n l (j + 1) = some (S ++ [(a : Int)])) := Hd (by rw [orderT, hS.out]; simp [hnx]);have hne : ((a : Int) == (n : Int)) = false := by simp; omega
      have hne2 : (a == n) = false := by simp; omega
      have hne3 : decide (a = n) = false := decide_eq_false (by omega);have k0 := (hB.out.at_ a).trans (markC_at n S a hlt2);have f0 := hB.out.free a;have lb := hB.out.lt;have hszr : b ≤ wo.heap.size := by omega
      clear hnx hf hS;go_wp2_with fail
      refine (HF.out).mono ?_;rintro e w6 ⟨rfl, rfl⟩;go_upto_region 9 with (fail)
      have HB8 : Hid (Blk (wo.setCell ⟨b, a, none⟩ (.bool true)) b 4 (markC n (S ++ [(a : Int)]))) := Hd (by rw [markC_snoc n S a hlt2]; exact hB.out.put _ _);have O8 : Only [b] wo (wo.setCell ⟨b, a, none⟩ (.bool true)) := (Only.refl [b] wo).put (p := ⟨b, a, none⟩) (fun _ => by simp) _;have HV8 := Hd (own_only hV.out O8 (fun g hg hm => by simp at hm; subst hm; exact own_apart hV.out hB.out (by decide) (by rw [hg]; simp)));have HO8 := Hd (HOB.out _ _ _ (by simp) hO.out O8);clear k0 f0 lb hB hV hO O8 HFR HF;generalize (wo.setCell ⟨b, a, none⟩ (.bool true)) = w8 at *;have hsz8 : b ≤ w8.heap.size := by have := HB8.out.lt; omega
      go_wp2_with (at_builtin; refine wpList_append_row _ rfl (.tmp 34) (.tmp 36) _ rfl b 3 i0 _ 1 8 Tryd.underlying25 hi hz0 hz1 hz2 rfl (by omega) (.slice Ao j co) j (S.map (Value.int .i64)) rfl (own_only HV8.out ((Only.refl [] _).alloc _) (by simp)) (w8.heap.size + 1) (some ⟨w8.heap.size, 0, none⟩) 1 1 [.int .i64 (a : Int)] rfl rfl (row_lit w8 3 #[.int .i64 (a : Int)]) (by intro u hu; simp at hu; subst hu; rfl) (by unfold maxLen; omega) (by omega) (by simp; omega) ?_; intro v7 w7 hown7 hgrow7 hat7)
      obtain ⟨A7, c7, rfl, -, -, -, -⟩ := own_row hown7;have OG : Only (Value.slice Ao j co).ownBlock.toList w8 w7 := ((Only.refl _ w8).alloc (.cells #[.int .i64 (a : Int)] 3)).step (only_grown hgrow7) (fun i hi hl => hi);have HB7 := Hd (OG.blk HB8.out (own_apart HV8.out HB8.out (by decide)));have HV7 : Hid (w7.ownsRow b 3 1 (.slice A7 (j + 1) c7) (j + 1) ((S ++ [(a : Int)]).map (Value.int .i64))) := Hd (by rw [List.map_append]; exact hown7);have HO7 := Hd (HOB.out _ _ _ (fun i hi => (HV8.out.lt i (by simpa using hi)).1) HO8.out OG);clear hown7 hgrow7 hat7 OG HB8 HV8 HO8;go_roundw
      case rel => exact ⟨j + 1, S ++ [(a : Int)], A7, c7, by go_num, by omega, HS1, HB7, HV7, HO7⟩
      case measure => simp [sLen]; omega
    ·have han : a = n := by omega
     subst han;have hd2 : decide ((a : Int) < (a : Int)) = false := by simp
     have hq1 : ((a : Int) == (a : Int)) = true := by simp
     have HE : Hid (R = none) := Hd (by rw [HRS.out, least_stop hlt hS.out (next_no hno.out)]);have HOO := hO;go_wp2
     exact bodyPost_ret (v := .tuple #[.slice none 0 0, .bool false]) (by simp [results, Tryd.results12, go_sem]) rfl (by rw [HE.out]; exact ⟨⟨none, 0, rfl, World.ownsRow_nil _ _ _ _⟩, HOO.out⟩)
  ·have hjn : j = n := by omega
   subst hjn;have hd2 : decide ((j : Int) < (j : Int)) = false := by simp
   have HE : Hid (R = some S) := Hd (by rw [HRS.out]; exact hS.out);have HSL := Hd (order_ord j hS.out).2;have HOO := hO;have HVF : Hid (wr.ownsRow w.heap.size 3 1 (.slice Ao j co) j (S.map (Value.int .i64))) := Hd (by rw [← HBE.out]; exact hV.out);clear hS hB hV hO;go_wp2
   exact bodyPost_ret (v := .tuple #[.slice Ao j co, .bool true]) (by simp [results, Tryd.results12, go_sem]) rfl (by rw [HE.out]; dsimp only [Option.getD_some, Option.isSome_some]; rw [HSL.out]; exact ⟨Ao, co, ⟨rfl, HVF.out⟩, HOO.out⟩)
end Go.Proofs.YtoojabllolnhnaaDoor
