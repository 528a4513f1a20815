/- Parts. -/
import Derived.Test.YtlnlppabeddclaaDoorLaw23AllK4
import Derived.Test.YtlnlppabeddclaaDoorLaw23AllK22
import Derived.Deep.CutBlock
import Derived.Deep.DeepCutAuto
set_option maxRecDepth 10000
set_option maxHeartbeats 16000000
set_option linter.unusedVariables false
set_option linter.unusedSimpArgs false
namespace Go.Proofs.YtlnlppabeddclaaDoor
open Go.RowKit
attribute [local go_sem ↓] Go.wp_at_zero Go.wp_at_succ
def NRows (w : World) (A : Option Addr) (n : Nat) (N : Nat → List Int) : Prop :=
 ∃ vals : List Value, vals.length = n ∧ Row w w.heap.size A vals ∧ ∀ i, i < n → ∃ Ai ci, vals[i]? = some (.slice Ai (N i).length ci) ∧ Row w w.heap.size Ai ((N i).map (Value.int .i64))
theorem NRows.same {w w' : World} {A : Option Addr} {n : Nat} {N : Nat → List Int} (h : NRows w A n N) (O : Only [] w w') : NRows w' A n N := by
 obtain ⟨vals, h1, h2, h3⟩ := h;refine ⟨vals, h1, row_up (h2.only O (by simp)), fun i hi => ?_⟩;obtain ⟨Ai, ci, h4, h5⟩ := h3 i hi;exact ⟨Ai, ci, h4, row_up (h5.only O (by simp))⟩
theorem rslice_tail (b off t c : Nat) (h : 1 ≤ t) (hc : t ≤ c) (W : World) : (Instr.slice 25 (.slice (some ⟨b, off, none⟩) t c) (some (.int .i64 1)) none none).run Tryd.prog W = .ok (.slice (some ⟨b, if c = 1 then off else off + 1, none⟩) (t - 1) (c - 1)) W := by
 rw [run_slice_l (P := Tryd.prog) W 25 (some ⟨b, off, none⟩) t c (by kernel_rfl) .i64 (1 : Int) (by omega) (by omega)];have hs : (sizeOf (Tryd.prog.elem 25)).run Tryd.prog W = .ok 1 W := by kernel_rfl
 rw [hs]
 by_cases hc1 : c = 1 <;> simp [Result.andThen, sliced, hc1, Addr.add]
def negAt (w : World) (b n : Nat) : Nat := ((List.range n).filter fun i : Nat => match w.cell? ⟨b, i, none⟩ with
 | some (.int _ z) => decide (z < 0)
 | _ => false).length
theorem negAt_of {w : World} {b n : Nat} {D : Nat → Int} (h : Blk w b 3 (intsF n D)) : negAt w b n = unkF n D := by
 unfold negAt unkF
 congr 1
 refine List.filter_congr fun i hi => ?_;rw [(h.at_ i).trans (intsF_at D (List.mem_range.1 hi))]
def qLenR : Value → Nat
 | .slice _ n _ => n
 | _ => 0
def intsQ (q : List Nat) : List Value := q.map fun y : Nat => Value.int .i64 (y : Int)
theorem unkF_le (n : Nat) (D : Nat → Int) : unkF n D ≤ n := by unfold unkF; exact Nat.le_trans (List.length_filter_le _ _) (by simp)
theorem nat_at {L : List Int} {j v : Nat} (h : L[j]? = some (v : Int)) : (L.map Int.toNat)[j]? = some v := by rw [List.getElem?_map, h]; simp
theorem nat_mem {L : List Int} {v : Nat} (h : (v : Int) ∈ L) : v ∈ L.map Int.toNat := List.mem_map.2 ⟨(v : Int), h, by simp⟩
theorem counts_any (x a : Nat) (v : Int) (w : World) (h : w.cell? ⟨x, 0, none⟩ = some (.int .i64 (a : Int))) (hx : x < w.heap.size) :
  Calls Tryd.prog 22 #[.int .i64 v, .pointer (some ⟨x, 0, none⟩)] w fun e w' => e = .returned (.bool (decide ((a : Int) ≤ v))) ∧ w = w' := by
 go_enter Tryd.func22, Tryd.ntmps22;go_wp2
 go_ret
 exact ⟨rfl, rfl⟩
theorem far_any (n a x c : Nat) (A : Option Addr) (N : Nat → List Int) (E : Nat → Nat → Bool) (w : World) (hn : n ≤ 500) (ha : a < n) (hN : NRows w A n N) (hnl : ∀ u, u < n → (N u).length ≤ n)
  (hNE : ∀ u, u < n → ∀ v : Nat, E v u = true ↔ (v : Int) ∈ N u) (hNn : ∀ u, u < n → ∀ z ∈ N u, ∃ v : Nat, z = (v : Int) ∧ v < n) (hE : ∀ u v, E u v = true → u < n ∧ v < n)
  (hx : w.cell? ⟨x, 0, none⟩ = some (.int .i64 (a : Int))) (hxl : x < w.heap.size) :
  Calls Tryd.prog 24 #[.int .i64 (a : Int), .slice A n c, .func (.func 22) #[] #[.pointer (some ⟨x, 0, none⟩)]] w fun e w' => ∃ b D, (e = .returned (.slice (some ⟨b, 0, none⟩) n n) ∧ Blk w' b 3 (intsF n D) ∧ w.heap.size ≤ b ∧ FarK E a D ∧ ∀ v, D v = -1 ∨ 0 ≤ D v) ∧ Only [] w w' := by
 obtain ⟨i0, hi, hz0, hz1, hz2⟩ := info_parts info_int;have hmk := fun W => make_ints n (by omega) W;have HN := Hd hN;have HNL := Hd hnl;have HNE := Hd hNE;have HNN := Hd hNn;have HC := Hd (fun (v : Int) (W : World) (O : Only [] w W) => counts_any x a v W ((O.cell (p := ⟨x, 0, none⟩) hxl (by simp)).trans hx) (Nat.lt_of_lt_of_le hxl O.size));clear hN hnl hNE hNn hE hx hxl;have ha0 : (0 : Int) ≤ (a : Int) := Int.natCast_nonneg _;have han : (a : Int) < (n : Int) := by omega
 go_enter Tryd.func24, Tryd.ntmps24;go_wp2_with fail
 have HB0 := Hd (Blk.made w 3 (intsF n fun _ => 0));have HO0 := Hd ((Only.refl [] w).alloc (.cells (intsF n fun _ => 0) 3));generalize (w.alloc (.cells (intsF n fun _ => 0) 3)) = w1 at *;obtain ⟨b, hb⟩ : ∃ b, b = w.heap.size := ⟨_, rfl⟩;rw [← hb] at HB0 ⊢;have HWB := Hd hb;clear hb hmk;have HB0' : Hid (Blk w1 b 3 (intsF n fun u => if u < 0 then -1 else 0)) := Hd (by rw [intsF_congr (g := fun _ => 0) (fun i _ => by simp)]; exact HB0.out);clear HB0
 go_loopw [17] (fun iv wr => ∃ i : Nat, iv = .int .i64 i ∧ i ≤ n ∧ Hid (Blk wr b 3 (intsF n fun u => if u < i then -1 else 0)) ∧ Hid (Only [] w wr)) (fun iv _ => n - (intOf iv).toNat)
 case atStart => exact ⟨0, rfl, by omega, HB0', HO0⟩
 case round =>
  obtain ⟨i, rfl, hin, hB, hO⟩ := hrel;clear HB0' HO0
  by_cases hlt : i < n
  ·have h01 : (i : Int) < (n : Int) := by omega
   have hi0 : (0 : Int) ≤ (i : Int) := Int.natCast_nonneg _;have hwi : IntKind.i64.wrap ((i : Int) + 1) = (i : Int) + 1 := IntWalk.i64_in _ (by omega);have e4 := (hB.out.at_ i).trans (intsF_at _ hlt);have e5 := hB.out.free i;have hbl := hB.out.lt;have HBN : Hid (Blk (wr.setCell ⟨b, i, none⟩ (.int .i64 (-1))) b 3 (intsF n fun u => if u < i + 1 then -1 else 0)) := Hd (by
    rw [intsF_congr (g := fun u => if u = i then (-1 : Int) else if u < i then -1 else 0) (fun u _ => by
     by_cases h1 : u = i
     ·rw [if_pos h1, if_pos (by omega)]
     ·rw [if_neg h1]
      by_cases h2 : u < i
      ·rw [if_pos h2, if_pos (by omega)]
      ·rw [if_neg h2, if_neg (by omega)]), ← intsF_set _ _ hlt]
    exact hB.out.put i _)
   have HON : Hid (Only [] w (wr.setCell ⟨b, i, none⟩ (.int .i64 (-1)))) := Hd (hO.out.step ((Only.refl [b] wr).put (p := ⟨b, i, none⟩) (fun _ => by simp) _) (fun j hj hl => by simp at hj; have := HWB.out; omega));clear hB hO;go_wp2
   go_roundw
   case rel => first | exact ⟨i + 1, by go_num, by omega, HBN, HON⟩ | exact ⟨_, ⟨i + 1, by go_num, by omega, HBN, HON⟩, rfl⟩
   case measure => simp [intOf]; omega
  ·have hni : n = i := by omega
   have hdd : decide ((n : Int) < (n : Int)) = false := by simp
   subst hni;have e4 := (hB.out.at_ a).trans (intsF_at _ ha);have e5 := hB.out.free a;have hbl := hB.out.lt;have HBN : Hid (Blk (wr.setCell ⟨b, a, none⟩ (.int .i64 0)) b 3 (intsF n fun u => if u = a then 0 else -1)) := Hd (by
    rw [intsF_congr (g := fun u => if u = a then (0 : Int) else if u < n then -1 else 0) (fun u hu => by
     by_cases h1 : u = a
     ·rw [if_pos h1, if_pos h1]
     ·rw [if_neg h1, if_neg h1, if_pos hu]), ← intsF_set _ _ ha]
    exact hB.out.put a _)
   have HON : Hid (Only [] w (wr.setCell ⟨b, a, none⟩ (.int .i64 0))) := Hd (hO.out.step ((Only.refl [b] wr).put (p := ⟨b, a, none⟩) (fun _ => by simp) _) (fun j hj hl => by simp at hj; have := HWB.out; omega));clear hB hO;go_wp2_with fail
   have hlb := HBN.out.lt;have hsz : (wr.setCell ⟨b, a, none⟩ (.int .i64 0)).heap.size = wr.heap.size := by simp [World.setCell]
   generalize (wr.setCell ⟨b, a, none⟩ (.int .i64 0)) = w2 at *;have OA : Only [] w2 (w2.alloc (.cells #[.int .i64 (a : Int)] 3)) := (Only.refl [] w2).alloc _;have HQ3 := Hd (OwnQ.lit (e := 3) w2 (b + 1) hlb (.int .i64 (a : Int)));have HB3 := Hd (OA.blk HBN.out (by simp));have HO3 := Hd (HON.out.trans OA);have HK3 := Hd (BfF.start (E := E) ha);have HU3 : Hid (∀ v, (if v = a then (0 : Int) else -1) + 1 + (unkF n fun u => if u = a then 0 else -1) ≤ n) := Hd (fun v => by
    have h1 := unkF_add (D := fun _ => -1) (k := 0) ha (by simp) (Int.le_refl _);have h2 := unkF_le n fun _ => -1
    split <;> omega)
   have HT3 : Hid (1 + (unkF n fun u => if u = a then 0 else -1) ≤ n) := Hd (by have := HU3.out a; simp at this; omega);clear OA HBN HON hlb;generalize (w2.alloc (.cells #[.int .i64 (a : Int)] 3)) = w3 at *;rw [hsz] at HQ3;generalize wr.heap.size = q0 at *
   go_loopw [9] (fun tv wr => ∃ (q : List Nat) (D : Nat → Int) (bq off t cq : Nat), tv = .slice (some ⟨bq, off, none⟩) t cq ∧ Hid (q.length = t) ∧ Hid (OwnQ wr (b + 1) 3 bq off cq (intsQ q)) ∧ Hid (Blk wr b 3 (intsF n D)) ∧ Hid (BfF E n a D q) ∧ Hid (∀ v, D v + 1 + unkF n D ≤ n) ∧ Hid (t + unkF n D ≤ n) ∧ Hid (Only [] w wr)) (fun tv wr => 2 * negAt wr b n + qLenR tv)
   case atStart => exact ⟨[a], _, q0, 0, 1, 1, rfl, Hd rfl, HQ3, HB3, HK3, HU3, HT3, HO3⟩
   case round =>
    obtain ⟨q, D, bq, off, t, cq, rfl, hT, hQ, hB, hK, hU, hTU, hO⟩ := hrel;clear HQ3 HB3 HK3 HU3 HT3 HO3;have HM := Hd (negAt_of hB.out)
    cases q with
    | nil =>
     obtain rfl : t = 0 := hT.out.symm;have HFK := Hd hK.out.far;have HNG := Hd hK.out.neg;clear hQ hK hU hTU HM HC;go_wp2
     go_ret
     exact ⟨b, D, ⟨rfl, hB.out, Nat.le_of_eq HWB.out.symm, HFK.out, HNG.out⟩, hO.out⟩
    | cons x1 r =>
     have hx1 : x1 < n := hK.out.lt x1 (hK.out.tod x1 List.mem_cons_self);obtain ⟨vals, hv1, hv2, hv3⟩ := HN.out;obtain ⟨Ax, cx, hx2, hx3⟩ := hv3 x1 hx1;obtain ⟨br, of2, eA, -, hbr, hcell⟩ := (row_up (hv2.only hO.out (by simp))).open_ (k := x1) (by rw [hv1]; exact hx1);have e0 := hcell x1 _ hx2;have hdn := HNL.out x1 hx1;have HRX := Hd hx3;have HNX := Hd (fun (v : Nat) => HNE.out x1 hx1 v);have HNY := Hd (HNN.out x1 hx1);clear hv2 hv3 hx2 hx3 hcell;subst eA;obtain ⟨d, hd⟩ : ∃ d, d = (N x1).length := ⟨_, rfl⟩;rw [← hd] at e0 hdn;have HDL := Hd hd;clear hd;have ht0 : 0 < t := by have := hT.out; simp only [List.length_cons] at this; omega
     have hti : (0 : Int) < (t : Int) := by omega
     have c0 := hQ.out.cell (j := 0) (u := .int .i64 (x1 : Int)) rfl;rw [Nat.add_zero] at c0;have hbq := hQ.out.lt;have hx0 : (0 : Int) ≤ (x1 : Int) := Int.natCast_nonneg _;have hxn : (x1 : Int) < (n : Int) := by omega
     have HI0 := Hd (hK.out.open_ (N := (N x1).map Int.toNat));go_wp2_with fail
     have hle0 : Hid (2 * unkF n D + t ≤ 2 * unkF n D + t) := Hd (Nat.le_refl _);obtain ⟨m0, hm0⟩ : ∃ m0, m0 = 2 * unkF n D + t := ⟨_, rfl⟩;have HM0 := Hd hm0;rw [← hm0] at hle0
     go_loopw [9, 41] (fun tv jv wr => ∃ (r : List Nat) (D : Nat → Int) (bq off t cq j : Nat), tv = .slice (some ⟨bq, off, none⟩) t cq ∧ jv = .int .i64 j ∧ j ≤ d ∧ Hid ((x1 :: r).length = t) ∧ Hid (OwnQ wr (b + 1) 3 bq off cq (intsQ (x1 :: r))) ∧ Hid (Blk wr b 3 (intsF n D)) ∧ Hid (BfI E n a D x1 r ((N x1).map Int.toNat) j) ∧ Hid (∀ v, D v + 1 + unkF n D ≤ n) ∧ Hid (t + unkF n D ≤ n) ∧ Hid (2 * unkF n D + t ≤ m0) ∧ Hid (Only [] w wr)) (fun _ jv _ => d - (intOf jv).toNat)
     case atStart => exact ⟨r, D, bq, off, t, cq, 0, rfl, rfl, by omega, hT, hQ, hB, HI0, hU, hTU, Hd (by rw [hm0]; exact Nat.le_refl _), hO⟩
     case round =>
      clear hT hQ hB HI0 hU hTU hO hK c0 e0 hbr hbq hm0 hle0 ht0 hti;obtain ⟨r, D, bq, off, t, cq, j, rfl, rfl, hjd, hT, hQ, hB, hI, hU, hTU, hMM, hO⟩ := hrel;have ht0 : 0 < t := by have := hT.out; simp only [List.length_cons] at this; omega
      have htn : t ≤ n := by have := hTU.out; omega
      by_cases hlt2 : j < d
      ·have h01 : (j : Int) < (d : Int) := by omega
       have hj0 : (0 : Int) ≤ (j : Int) := Int.natCast_nonneg _;have hwj : IntKind.i64.wrap ((j : Int) + 1) = (j : Int) + 1 := IntWalk.i64_in _ (by omega);obtain ⟨z0, hz⟩ : ∃ z, (N x1)[j]? = some z := ⟨_, List.getElem?_eq_getElem (by rw [← HDL.out]; exact hlt2)⟩;obtain ⟨v, rfl, hvn⟩ := HNY.out z0 (List.mem_of_getElem? hz);have HEV := Hd ((HNX.out v).2 (List.mem_of_getElem? hz));have hRo := row_up (HRX.out.only hO.out (by simp));obtain ⟨bx, o2, eA, -, hbx, hcell⟩ := hRo.open_ (k := j) (by rw [List.length_map, ← HDL.out]; exact hlt2);have e1 := hcell j (.int .i64 (v : Int)) (by rw [List.getElem?_map, hz]; rfl);have HZ := Hd (nat_at hz);clear hcell hRo hz;subst eA;have hv0 : (0 : Int) ≤ (v : Int) := Int.natCast_nonneg _;have hvn2 : (v : Int) < (n : Int) := by omega
       have HCV := Hd (HC.out (v : Int) wr hO.out)
       by_cases hav : a ≤ v
       ·have hd1 : decide ((a : Int) ≤ (v : Int)) = true := by simp; omega
        rw [hd1] at HCV;have e3 := (hB.out.at_ v).trans (intsF_at D hvn);have hbl := hB.out.lt
        by_cases hneg : D v < 0
        ·have hd2 : decide (D v < 0) = true := by simpa using hneg
         have c0 := hQ.out.cell (j := 0) (u := .int .i64 (x1 : Int)) rfl;rw [Nat.add_zero] at c0;have hbq := hQ.out.lt;have hqb := hQ.out.lo;have hx0 : (0 : Int) ≤ (x1 : Int) := Int.natCast_nonneg _;have e6 := (hB.out.at_ x1).trans (intsF_at D hx1);have e7 := hB.out.free v;have hti : (0 : Int) < (t : Int) := by omega
         have hD0 := hI.out.all.tod x1 List.mem_cons_self;have hD1 := hU.out x1;have hwd : IntKind.i64.wrap (D x1 + 1) = D x1 + 1 := IntWalk.i64_in _ (by omega);have HIN := Hd (hI.out.add HZ.out HEV.out hvn hav hneg);have HUA := Hd (unkF_add (D := D) (k := D x1 + 1) hvn hneg (by omega));have HTT := hT;have OM : Only [b] wr (wr.setCell ⟨b, v, none⟩ (.int .i64 (D x1 + 1))) := (Only.refl [b] wr).put (p := ⟨b, v, none⟩) (fun _ => by simp) _;have HB5 : Hid (Blk (wr.setCell ⟨b, v, none⟩ (.int .i64 (D x1 + 1))) b 3 (intsF n fun u => if u = v then D x1 + 1 else D u)) := Hd (by rw [← intsF_set _ _ hvn]; exact hB.out.put v _);have HQ5 := Hd (hQ.out.only OM (by simp; omega));have HO5 := Hd (hO.out.step OM (fun k hk hl => by simp at hk; have := HWB.out; omega));have hq5 : b + 1 ≤ (wr.setCell ⟨b, v, none⟩ (.int .i64 (D x1 + 1))).heap.size := HB5.out.lt;clear OM hI hB hQ hO hd1 hneg;go_wp2_with fail
         refine (HCV.out).mono ?_;rintro e w5 ⟨rfl, rfl⟩;clear HCV;go_upto_region 16 with (fail)
         generalize (wr.setCell ⟨b, v, none⟩ (.int .i64 (D x1 + 1))) = w5 at *;clear e1 e3 e6 e7 c0 hbl hbq hbx;go_wp2_with (
          at_builtin
          refine wpList_append_queue _ rfl (.tmp 65) (.tmp 67) 25 rfl 3 i0 _ 8 Tryd.underlying25 hi hz0 hz1 hz2 rfl (b + 1) bq off t cq (intsQ (x1 :: r)) (by rfl) (HQ5.out.only ((Only.refl [] w5).alloc (.cells #[.int .i64 (v : Int)] 3)) (by simp)) (by unfold intsQ; rw [List.length_map]; exact hT.out) ⟨w5.heap.size, 0, none⟩ 1 (.int .i64 (v : Int)) (by rfl) (by simp) rfl (by unfold maxLen; omega) (by omega) (by simp; omega) ?_;intro b7 off7 c7 w7 hq7 O7 hb7;have OA := (Only.refl [] w5).alloc (.cells #[.int .i64 (v : Int)] 3);have HQ7 : Hid (OwnQ w7 (b + 1) 3 b7 off7 c7 (intsQ (x1 :: (r ++ [v])))) := Hd (by unfold intsQ at hq7 ⊢; rw [← List.cons_append, List.map_append]; exact hq7);have HB7 := Hd (O7.blk (OA.blk HB5.out (by simp)) (by simp; omega));have HO7 := Hd ((HO5.out.step OA (by simp)).step O7 (fun k hk hl => by simp at hk; have := HWB.out; omega));clear hq7 O7 hb7 OA)
         go_roundw
         case rel =>
          have HTN : Hid ((x1 :: (r ++ [v])).length = t + 1) := Hd (by have := hT.out; simp only [List.length_cons, List.length_append, List.length_nil] at *; omega);have HUN : Hid (∀ u, (if u = v then D x1 + 1 else D u) + 1 + unkF n (fun u => if u = v then D x1 + 1 else D u) ≤ n) := Hd (fun u => by
           have h1 := hU.out x1;have h2 := hU.out u;have h3 := HUA.out
           split <;> omega)
          have HTU7 : Hid (t + 1 + unkF n (fun u => if u = v then D x1 + 1 else D u) ≤ n) := Hd (by have h1 := hTU.out; have h3 := HUA.out; omega);have HM7 : Hid (2 * unkF n (fun u => if u = v then D x1 + 1 else D u) + (t + 1) ≤ m0) := Hd (by have h1 := hMM.out; have h3 := HUA.out; omega)
          first | exact ⟨r ++ [v], _, b7, off7, _, c7, j + 1, rfl, by go_num, by omega, HTN, HQ7, HB7, HIN, HUN, HTU7, HM7, HO7⟩ | exact ⟨_, _, ⟨r ++ [v], _, b7, off7, _, c7, j + 1, rfl, by go_num, by omega, HTN, HQ7, HB7, HIN, HUN, HTU7, HM7, HO7⟩, rfl, rfl⟩
         case measure => simp [intOf]; omega
        ·have hd2 : decide (D v < 0) = false := by simpa using hneg
         have HIN := Hd (hI.out.skip HZ.out (fun h => hneg h.2));clear hI hd1;go_wp2_with fail
         refine (HCV.out).mono ?_;rintro e w5 ⟨rfl, rfl⟩;go_wp2
         go_roundw
         case rel => first | exact ⟨r, D, bq, off, t, cq, j + 1, rfl, by go_num, by omega, hT, hQ, hB, HIN, hU, hTU, hMM, hO⟩ | exact ⟨_, _, ⟨r, D, bq, off, t, cq, j + 1, rfl, by go_num, by omega, hT, hQ, hB, HIN, hU, hTU, hMM, hO⟩, rfl, rfl⟩
         case measure => simp [intOf]; omega
       ·have hd1 : decide ((a : Int) ≤ (v : Int)) = false := by simp; omega
        rw [hd1] at HCV;have HIN := Hd (hI.out.skip HZ.out (fun h => hav h.1));clear hI hd1;go_wp2_with fail
        refine (HCV.out).mono ?_;rintro e w5 ⟨rfl, rfl⟩;go_wp2
        go_roundw
        case rel => first | exact ⟨r, D, bq, off, t, cq, j + 1, rfl, by go_num, by omega, hT, hQ, hB, HIN, hU, hTU, hMM, hO⟩ | exact ⟨_, _, ⟨r, D, bq, off, t, cq, j + 1, rfl, by go_num, by omega, hT, hQ, hB, HIN, hU, hTU, hMM, hO⟩, rfl, rfl⟩
        case measure => simp [intOf]; omega
      ·have hjd2 : d = j := by omega
       have hdd2 : decide ((d : Int) < (d : Int)) = false := by simp
       subst hjd2;have htc : t ≤ cq := by have h1 := hQ.out.le; have h2 := hT.out; unfold intsQ at h1; rw [List.length_map] at h1; omega
       have hsl := fun W => rslice_tail bq off t cq (by omega) htc W;have HQT : Hid (OwnQ wr (b + 1) 3 bq (if cq = 1 then off else off + 1) (cq - 1) (intsQ r)) := Hd (OwnQ.tail (x := .int .i64 (x1 : Int)) hQ.out);have HKN : Hid (BfF E n a D r) := Hd (by
        have h1 := hI.out;rw [show d = ((N x1).map Int.toNat).length by rw [List.length_map, ← HDL.out]] at h1;exact h1.end_ fun v hv => nat_mem ((HNX.out v).1 hv))
       have HTN : Hid (r.length = t - 1) := Hd (by have := hT.out; simp only [List.length_cons] at this; omega);have HTU : Hid (t - 1 + unkF n D ≤ n) := Hd (by have := hTU.out; omega);have HM2 := Hd (negAt_of hB.out);generalize (if cq = 1 then off else off + 1) = off2 at *;clear hI hQ hT hTU;go_wp2
       go_roundw
       case rel => first | exact ⟨r, D, bq, off2, t - 1, cq - 1, rfl, HTN, HQT, hB, HKN, hU, HTU, hO⟩ | exact ⟨_, ⟨r, D, bq, off2, t - 1, cq - 1, rfl, HTN, HQT, hB, HKN, hU, HTU, hO⟩, rfl⟩
       case measure =>
        rw [HM2.out, HM.out];have h1 := hMM.out;have h2 := HM0.out;simp [qLenR];omega
end Go.Proofs.YtlnlppabeddclaaDoor
