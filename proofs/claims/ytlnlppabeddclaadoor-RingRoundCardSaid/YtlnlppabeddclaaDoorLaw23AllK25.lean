/- Parts. -/
import Derived.Test.YtlnlppabeddclaaDoorLaw23AllK24
set_option maxRecDepth 10000
set_option maxHeartbeats 16000000
set_option linter.unusedVariables false
set_option linter.unusedSimpArgs false
namespace Go.Proofs.YtlnlppabeddclaaDoor
open Go.RowKit
attribute [local go_sem ↓] Go.wp_at_zero Go.wp_at_succ
def BestK (D : Nat → Int) (a : Nat) (L : List Nat) (z : Int) : Prop := (z = -1 ∧ ∀ v ∈ L, a ≤ v → D v < 0) ∨ (0 ≤ z ∧ (∃ v ∈ L, a ≤ v ∧ D v = z) ∧ ∀ v ∈ L, a ≤ v → 0 ≤ D v → z ≤ D v)
theorem BestK.snoc {D : Nat → Int} {a v : Nat} {L : List Nat} {z : Int} (h : BestK D a L z) : BestK D a (L ++ [v]) (if a ≤ v ∧ 0 ≤ D v ∧ (z < 0 ∨ D v < z) then D v else z) := by
 by_cases hc : a ≤ v ∧ 0 ≤ D v ∧ (z < 0 ∨ D v < z)
 ·rw [if_pos hc];refine .inr ⟨hc.2.1, ⟨v, by simp, hc.1, rfl⟩, fun u hu hau h0 => ?_⟩;rcases List.mem_append.1 hu with h1 | h1
  ·rcases h with ⟨hz, h2⟩ | ⟨hz, -, h2⟩
   ·have := h2 u h1 hau; omega
   ·have := h2 u h1 hau h0; omega
  ·rw [List.mem_singleton.1 h1]; exact Int.le_refl _
 ·rw [if_neg hc];rcases h with ⟨hz, h2⟩ | ⟨hz, ⟨u, hu, hu2⟩, h2⟩
  ·refine .inl ⟨hz, fun u hu hau => ?_⟩;rcases List.mem_append.1 hu with h1 | h1
   ·exact h2 u h1 hau
   ·rw [List.mem_singleton.1 h1] at hau ⊢;omega
  ·refine .inr ⟨hz, ⟨u, List.mem_append_left _ hu, hu2⟩, fun y hy hay h0 => ?_⟩;rcases List.mem_append.1 hy with h1 | h1
   ·exact h2 y h1 hay h0
   ·rw [List.mem_singleton.1 h1] at hay h0 ⊢;omega
def leftAt (w : World) : Value → Nat
 | .pointer (some ad) => match w.cell? ad with
  | some (.int _ z) => z.toNat
  | _ => 0
 | _ => 0
theorem intsQ_len (q : List Nat) : (intsQ q).length = q.length := by simp [intsQ]
theorem intsQ_app (q r : List Nat) : intsQ (q ++ r) = intsQ q ++ intsQ r := by simp [intsQ]
theorem PH.at_ {E : Nat → Nat → Bool} {a M : Nat} {D : Nat → Int} {hd : List Nat} {x : Nat} (h : PH E a M D hd x) : hd[hd.length - 1]? = some x := by
 cases h with
 | one => rfl
 | snoc _ _ _ _ _ => simp
theorem nodup_left23 {n : Nat} : ∀ (k : Nat) {S : List Nat}, S.length = k → S.Nodup → (∀ a ∈ S, a < n) → leftK n (S.map fun x : Nat => (x : Int)) + k ≤ n
 | 0, S, hk, _, _ => by
  obtain rfl := List.length_eq_zero_iff.1 hk;exact leftK_le n []
 | k + 1, S, hk, hd, hl => by
  rcases List.eq_nil_or_concat S with rfl | ⟨T, a, rfl⟩
  ·simp at hk
  have hT : T.length = k := by simp at hk; exact hk
  rw [List.concat_eq_append] at hd hl ⊢;rw [List.nodup_append] at hd;have ih := nodup_left23 k hT hd.1 (fun x hx => hl x (List.mem_append_left _ hx));have := leftK_snoc (hl a (by simp)) (K := T.map fun x : Nat => (x : Int)) (fun hm => by
   obtain ⟨c, hc, e⟩ := List.mem_map.1 hm;exact hd.2.2 c hc a (by simp) (by omega))
  rw [List.map_append, List.map_cons, List.map_nil];omega
theorem nodup_len23 {n : Nat} {S : List Nat} (hd : S.Nodup) (hl : ∀ a ∈ S, a < n) : S.length ≤ n := by
 have := nodup_left23 S.length rfl hd hl;omega
theorem O7blk {w w' : World} {S : List Nat} {g : Nat} {t : TypeId} {cs : Array Value} (O : Only S w w') (h : Blk w g t cs) (hS : g ∉ S) : Blk w' g t cs := O.blk h hS
theorem through_any (n a x b c : Nat) (A : Option Addr) (N : Nat → List Nat) (D : Nat → Int) (E : Nat → Nat → Bool) (w : World) (hn : n ≤ 500) (ha : a < n) (hN : NRows w A n fun i => (N i).map fun v : Nat => (v : Int)) (hnl : ∀ u, u < n → (N u).length ≤ n)
  (hNE : ∀ u, u < n → N u = (List.range n).filter (E u)) (hE : ∀ u v, E u v = true → u < n ∧ v < n)
  (hB : Blk w b 3 (intsF n D)) (hF : FarK E a D) (hD : ∀ v, D v = -1 ∨ 0 ≤ D v) (hx : w.cell? ⟨x, 0, none⟩ = some (.int .i64 (a : Int))) (hxl : x < w.heap.size) :
  Calls Tryd.prog 23 #[.int .i64 (a : Int), .slice A n c, .slice (some ⟨b, 0, none⟩) n n, .func (.func 22) #[] #[.pointer (some ⟨x, 0, none⟩)]] w fun e w' => ∃ (R : Option (List Nat)) (A' : Option Addr) (c' : Nat), (e = .returned (.slice A' (R.getD []).length c') ∧ (R = none → A' = none ∧ c' = 0) ∧ (∀ r, R = some r → ∃ g, A' = some ⟨g, 0, none⟩) ∧ w'.ownsRow w.heap.size 3 1 (.slice A' (R.getD []).length c') (R.getD []).length (intsQ (R.getD [])) ∧ Thru E n a D R) ∧ Only [] w w' := by
 obtain ⟨i0, hi, hz0, hz1, hz2⟩ := info_parts info_int;have HN := Hd hN;have HNL := Hd hnl;have HNE := Hd hNE;have HE := Hd hE;have HF := Hd hF;have HD := Hd hD;have HC := Hd (fun (v : Int) (W : World) (O : Only [] w W) => counts_any x a v W ((O.cell (p := ⟨x, 0, none⟩) hxl (by simp)).trans hx) (Nat.lt_of_lt_of_le hxl O.size));have HB := Hd hB;have HX := Hd hx;clear hN hnl hNE hE hF hD hB hx;have ha0 : (0 : Int) ≤ (a : Int) := Int.natCast_nonneg _;have han : (a : Int) < (n : Int) := by omega
 obtain ⟨vals, hv1, hv2, hv3⟩ := HN.out;obtain ⟨Ax, cx, hx2, hx3⟩ := hv3 a ha;rw [List.length_map] at hx2;have HRX := Hd hx3;have HRV := Hd hv2;have HVL := Hd hv1;have HXA := Hd hx2;have O2 : Only [] w ((w.alloc (.cells #[.slice (some ⟨b, 0, none⟩) n n] 25)).alloc (.cells #[.func (.func 22) #[] #[.pointer (some ⟨x, 0, none⟩)]] 43)) := ((Only.refl [] w).alloc _).alloc _;have hR2 := row_up (HRV.out.only O2 (by simp));obtain ⟨br, of2, eA, -, hbr, hcell⟩ := hR2.open_ (k := a) (by rw [hv1]; exact ha);have e0 := hcell a _ hx2;clear hv1 hv2 hv3 hx2 hx3 hR2 hcell;subst eA;go_enter Tryd.func23, Tryd.ntmps23;go_wp2_with fail
 have HP2 := Hd ((Blk.made w 25 #[.slice (some ⟨b, 0, none⟩) n n]).alloc (.cells #[.func (.func 22) #[] #[.pointer (some ⟨x, 0, none⟩)]] 43));have HP1 := Hd (Blk.made (w.alloc (.cells #[.slice (some ⟨b, 0, none⟩) n n] 25)) 43 #[.func (.func 22) #[] #[.pointer (some ⟨x, 0, none⟩)]]);simp only [World.size_alloc] at HP1;have HO2 := Hd O2;have HB2 := Hd (O2.blk HB.out (by simp));have HR2 := Hd (row_up (HRX.out.only O2 (by simp)));clear O2 HRX HRV hbr e0;generalize ((w.alloc (.cells #[.slice (some ⟨b, 0, none⟩) n n] 25)).alloc (.cells #[.func (.func 22) #[] #[.pointer (some ⟨x, 0, none⟩)]] 43)) = w2 at *;obtain ⟨d, hd⟩ : ∃ d, d = (N a).length := ⟨_, rfl⟩;have hdn := HNL.out a ha;have HDL := Hd hd;rw [← hd] at hdn ⊢;clear hd
 go_loopw [9, 21] (fun zv iv wr => ∃ (i : Nat) (z : Int), iv = .int .i64 i ∧ zv = .int .i64 z ∧ i ≤ d ∧ Hid (BestK D a ((N a).take i) z) ∧ Hid (w2 = wr)) (fun _ iv _ => d - (intOf iv).toNat)
 case atStart => exact ⟨0, -1, rfl, rfl, by omega, Hd (.inl ⟨rfl, by simp⟩), Hd rfl⟩
 case round =>
  obtain ⟨i, z, rfl, rfl, hid, hK, hw⟩ := hrel;obtain rfl := hw.out
  by_cases hlt : i < d
  ·have h01 : (i : Int) < (d : Int) := by omega
   have hi0 : (0 : Int) ≤ (i : Int) := Int.natCast_nonneg _;have hwi : IntKind.i64.wrap ((i : Int) + 1) = (i : Int) + 1 := IntWalk.i64_in _ (by omega);obtain ⟨v, hv⟩ : ∃ v, (N a)[i]? = some v := ⟨_, List.getElem?_eq_getElem (by rw [← HDL.out]; exact hlt)⟩;have hvn : v < n := by
    have := List.mem_of_getElem? hv;rw [HNE.out a ha] at this;exact List.mem_range.1 (List.mem_filter.1 this).1
   obtain ⟨bx, o2, eB, -, hbx, hcell⟩ := HR2.out.open_ (k := i) (by rw [List.length_map, List.length_map, ← HDL.out]; exact hlt);have e1 := hcell i (.int .i64 (v : Int)) (by rw [List.getElem?_map, List.getElem?_map, hv]; rfl);have HTK : Hid ((N a).take (i + 1) = (N a).take i ++ [v]) := Hd (by rw [List.take_add_one, hv]; rfl);have f1 := HP1.out.at_ 0;have f2 := HP2.out.at_ 0;have g1 := HP1.out.lt;have g2 := HP2.out.lt;have e3 := (HB2.out.at_ v).trans (intsF_at D hvn);have g3 := HB2.out.lt;simp at f1 f2;have hv0 : (0 : Int) ≤ (v : Int) := Int.natCast_nonneg _;have hvn2 : (v : Int) < (n : Int) := by omega
   have HCV := Hd (HC.out (v : Int) _ HO2.out);have hdv := HD.out v;clear hcell hv;subst eB
   by_cases hav : a ≤ v
   ·have hd1 : decide ((a : Int) ≤ (v : Int)) = true := by simp; omega
    rw [hd1] at HCV;clear hd1
    by_cases h0 : 0 ≤ D v
    ·by_cases hz : z < 0
     ·have q1 : decide (0 ≤ D v) = true := by simpa using h0
      have q2 : decide (z < 0) = true := by simpa using hz
      have HBN : Hid (BestK D a ((N a).take (i + 1)) (D v)) := Hd (by rw [HTK.out]; have h := hK.out.snoc (v := v); rwa [if_pos (by omega)] at h);skip;go_wp2_with fail
      refine (HCV.out).mono ?_;rintro e w5 ⟨rfl, rfl⟩;go_wp2
      go_roundw
      case rel => first | exact ⟨i + 1, D v, by go_num, rfl, by omega, HBN, Hd trivial⟩ | exact ⟨i + 1, D v, by go_num, rfl, by omega, HBN, Hd rfl⟩ | exact ⟨_, _, ⟨i + 1, D v, by go_num, rfl, by omega, HBN, Hd rfl⟩, rfl, rfl⟩ | exact ⟨_, _, ⟨i + 1, D v, by go_num, rfl, by omega, HBN, Hd trivial⟩, rfl, rfl⟩
      case measure => simp [intOf]; omega
     ·by_cases hl : D v < z
      ·have q1 : decide (0 ≤ D v) = true := by simpa using h0
       have q2 : decide (z < 0) = false := by simpa using hz
       have q3 : decide (D v < z) = true := by simpa using hl
       have HBN : Hid (BestK D a ((N a).take (i + 1)) (D v)) := Hd (by rw [HTK.out]; have h := hK.out.snoc (v := v); rwa [if_pos (by omega)] at h);skip;go_wp2_with fail
       refine (HCV.out).mono ?_;rintro e w5 ⟨rfl, rfl⟩;go_wp2
       go_roundw
       case rel => first | exact ⟨i + 1, D v, by go_num, rfl, by omega, HBN, Hd trivial⟩ | exact ⟨i + 1, D v, by go_num, rfl, by omega, HBN, Hd rfl⟩ | exact ⟨_, _, ⟨i + 1, D v, by go_num, rfl, by omega, HBN, Hd rfl⟩, rfl, rfl⟩ | exact ⟨_, _, ⟨i + 1, D v, by go_num, rfl, by omega, HBN, Hd trivial⟩, rfl, rfl⟩
       case measure => simp [intOf]; omega
      ·have q1 : decide (0 ≤ D v) = true := by simpa using h0
       have q2 : decide (z < 0) = false := by simpa using hz
       have q3 : decide (D v < z) = false := by simpa using hl
       have HBN : Hid (BestK D a ((N a).take (i + 1)) (z)) := Hd (by rw [HTK.out]; have h := hK.out.snoc (v := v); rwa [if_neg (by omega)] at h);skip;go_wp2_with fail
       refine (HCV.out).mono ?_;rintro e w5 ⟨rfl, rfl⟩;go_wp2
       go_roundw
       case rel => first | exact ⟨i + 1, z, by go_num, rfl, by omega, HBN, Hd trivial⟩ | exact ⟨i + 1, z, by go_num, rfl, by omega, HBN, Hd rfl⟩ | exact ⟨_, _, ⟨i + 1, z, by go_num, rfl, by omega, HBN, Hd rfl⟩, rfl, rfl⟩ | exact ⟨_, _, ⟨i + 1, z, by go_num, rfl, by omega, HBN, Hd trivial⟩, rfl, rfl⟩
       case measure => simp [intOf]; omega
    ·have q1 : decide (0 ≤ D v) = false := by simpa using h0
     have HBN : Hid (BestK D a ((N a).take (i + 1)) (z)) := Hd (by rw [HTK.out]; have h := hK.out.snoc (v := v); rwa [if_neg (by omega)] at h);skip;go_wp2_with fail
     refine (HCV.out).mono ?_;rintro e w5 ⟨rfl, rfl⟩;go_wp2
     go_roundw
     case rel => first | exact ⟨i + 1, z, by go_num, rfl, by omega, HBN, Hd trivial⟩ | exact ⟨i + 1, z, by go_num, rfl, by omega, HBN, Hd rfl⟩ | exact ⟨_, _, ⟨i + 1, z, by go_num, rfl, by omega, HBN, Hd rfl⟩, rfl, rfl⟩ | exact ⟨_, _, ⟨i + 1, z, by go_num, rfl, by omega, HBN, Hd trivial⟩, rfl, rfl⟩
     case measure => simp [intOf]; omega
   ·have hd1 : decide ((a : Int) ≤ (v : Int)) = false := by simp; omega
    rw [hd1] at HCV;clear hd1;have HBN : Hid (BestK D a ((N a).take (i + 1)) (z)) := Hd (by rw [HTK.out]; have h := hK.out.snoc (v := v); rwa [if_neg (by omega)] at h);skip;go_wp2_with fail
    refine (HCV.out).mono ?_;rintro e w5 ⟨rfl, rfl⟩;go_wp2
    go_roundw
    case rel => first | exact ⟨i + 1, z, by go_num, rfl, by omega, HBN, Hd trivial⟩ | exact ⟨i + 1, z, by go_num, rfl, by omega, HBN, Hd rfl⟩ | exact ⟨_, _, ⟨i + 1, z, by go_num, rfl, by omega, HBN, Hd rfl⟩, rfl, rfl⟩ | exact ⟨_, _, ⟨i + 1, z, by go_num, rfl, by omega, HBN, Hd trivial⟩, rfl, rfl⟩
    case measure => simp [intOf]; omega
  ·have hid2 : d = i := by omega
   have hdd : decide ((d : Int) < (d : Int)) = false := by simp
   have HKF : Hid (BestK D a (N a) z) := Hd (by
    have h := hK.out
    rwa [hid2.symm, HDL.out, List.take_length] at h)
   have hmem : ∀ v, E a v = true → v ∈ N a := fun v he => by rw [HNE.out a ha]; exact List.mem_filter.2 ⟨List.mem_range.2 (HE.out a v he).2, he⟩
   by_cases hz : z < 0
   ·have hz2 : decide (z < 0) = true := by simpa using hz
    have HTH : Hid (Thru E n a D none) := Hd ⟨fun _ v he hav k hk => by
     rcases HKF.out with ⟨-, h⟩ | ⟨h, -⟩
     ·have := h v (hmem v he) hav; omega
     ·omega, fun r h => by cases h⟩
    rw [← hid2];clear hid2 hK hw hmem HKF HC;go_wp2
    go_ret
    exact ⟨none, none, 0, ⟨rfl, fun _ => ⟨rfl, rfl⟩, fun r h => (by cases h), World.ownsRow_nil _ _ _ _, HTH.out⟩, HO2.out⟩
   ·obtain ⟨zn, rfl⟩ : ∃ zn : Nat, z = (zn : Int) := ⟨z.toNat, by omega⟩;have HBE : Hid (Best E a (zn + 1) D) := Hd (by
     rcases HKF.out with ⟨h, -⟩ | ⟨-, ⟨v, h1, h2, h3⟩, h4⟩
     ·omega
     ·refine ⟨by omega, fun u he hau k hk => ?_, v, ?_, h2, by rw [h3]; simp⟩
      ·have := h4 u (hmem u he) hau (by omega);omega
      ·rw [HNE.out a ha] at h1;exact (List.mem_filter.1 h1).2)
    have hz3 : decide ((zn : Int) < 0) = false := by simp
    have hznn : zn < 500 := by
     have h := HBE.out;obtain ⟨h1, y, h2⟩ := grd_len HF.out h HE.out zn (PH.one (E := E) (D := D) (M := zn + 1)) (by simp; omega);have h3 := nodup_len23 (h2.nodup HF.out) (h2.lt HE.out ha);omega
    rw [← hid2];clear hid2 hK hw hmem HKF HC hz;go_wp2_with fail
    have HE5 : Hid (((w2.alloc (.cells #[.int .i64 (a : Int)] 3)).alloc (.cells #[.int .i64 (zn : Int)] 3)).ownsRow w2.heap.size 3 1 (.slice (some ⟨w2.heap.size, 0, none⟩) [a].length 1) [a].length (intsQ [a])) := Hd (own_only (w := w2.alloc (.cells #[.int .i64 (a : Int)] 3)) ⟨rfl, .inr ⟨w2.heap.size, 1, #[.int .i64 (a : Int)], rfl, Nat.le_refl _, Array.getElem?_push_size, Nat.le_refl _, by decide, rfl, rfl⟩⟩ ((Only.refl [] _).alloc (.cells #[.int .i64 (zn : Int)] 3)) (by simp));have HL5 := Hd (Blk.made (w2.alloc (.cells #[.int .i64 (a : Int)] 3)) 3 #[.int .i64 (zn : Int)]);simp only [World.size_alloc] at HL5;have HO5 : Hid (Only [] w2 ((w2.alloc (.cells #[.int .i64 (a : Int)] 3)).alloc (.cells #[.int .i64 (zn : Int)] 3))) := Hd (((Only.refl [] w2).alloc _).alloc _);generalize ((w2.alloc (.cells #[.int .i64 (a : Int)] 3)).alloc (.cells #[.int .i64 (zn : Int)] 3)) = w5 at *;generalize hq0 : w2.heap.size = q0 at *
    go_loopw [12, 13] (fun rv pv wr => ∃ (hd : List Nat) (y k p3 : Nat) (A' : Option Addr) (c' : Nat), rv = .slice A' hd.length c' ∧ pv = .pointer (some ⟨p3, 0, none⟩) ∧ hd.length + k = zn + 1 ∧ q0 ≤ p3 ∧ Hid (wr.ownsRow q0 3 1 (.slice A' hd.length c') hd.length (intsQ hd)) ∧ Hid (∀ g ∈ (Value.slice A' hd.length c').ownBlock.toList, g ≠ p3) ∧ Hid (PH E a (zn + 1) D hd y) ∧ Hid (Blk wr p3 3 #[.int .i64 (k : Int)]) ∧ Hid (grd E n D a k hd = grd E n D a zn [a]) ∧ Hid (Only [] w2 wr)) (fun _ pv wr => leftAt wr pv)
    case atStart => exact ⟨[a], a, zn, q0 + 1, some ⟨q0, 0, none⟩, 1, rfl, rfl, by simp; omega, by omega, HE5, Hd (fun g hg => by simp [Value.ownBlock] at hg; omega), Hd .one, HL5, Hd rfl, HO5⟩
    case round =>
     obtain ⟨hd, y, k, p3, A', c', rfl, rfl, hlen, hp3, hR, hAP, hP, hL, hG, hO⟩ := hrel;clear HE5 HL5 HO5;have e9 := hL.out.at_ 0;have l9 := hL.out.lt;have f9 := hL.out.free 0;simp at e9
     cases k with
     | zero =>
      have HTH : Hid (Thru E n a D (some hd)) := Hd ⟨fun h => (by cases h), fun r h => by
       cases h
       refine ⟨zn + 1, HBE.out, ?_⟩;rw [show zn + 1 - 1 = zn by omega];exact hG.out⟩
      obtain ⟨gr, cr, er⟩ : ∃ g c, Value.slice A' hd.length c' = .slice (some ⟨g, 0, none⟩) hd.length c := by
       obtain ⟨-, ⟨-, h1⟩ | ⟨g, cap, cur, h1, -⟩⟩ := hR.out
       ·have := hP.out.pos; omega
       ·exact ⟨g, cap, h1⟩
      injection er with er1 er2 er3;subst er1 er3;have HR9 := Hd (own_lower hR.out (show w.heap.size ≤ q0 by rw [← hq0]; exact HO2.out.size));have HO9 := Hd (HO2.out.trans hO.out);clear hR hAP hL hG hO hP HBE;go_wp2
      go_ret
      first | exact ⟨some hd, some ⟨gr, 0, none⟩, c', ⟨rfl, fun h => (by cases h), fun r h => ⟨gr, rfl⟩, HR9.out, HTH.out⟩, HO9.out⟩ | exact ⟨⟨some hd, some ⟨gr, 0, none⟩, c', rfl, fun h => (by cases h), fun r h => ⟨gr, rfl⟩, HR9.out, HTH.out⟩, HO9.out⟩
     | succ k =>
      have HL0 : Hid (wr.cell? ⟨p3, 0, none⟩ = some (.int .i64 ((k + 1 : Nat) : Int))) := Hd (by have := hL.out.at_ 0; simpa using this);have hpp := hP.out;have hyn : y < n := hpp.lt HE.out ha y (List.mem_of_getElem? hpp.at_);have hyl := hpp.at_;have hMk : zn + 1 - hd.length = k + 1 := by omega
      obtain ⟨b2, b3, b4, b5⟩ := hpp.next HF.out HBE.out (by omega);rw [hMk] at b5;obtain ⟨u, hu⟩ : ∃ u, (N y).find? (fun v => decide (a ≤ v) && decide (D v = ((k + 1 : Nat) : Int))) = some u := by
       cases hf : (N y).find? (fun v => decide (a ≤ v) && decide (D v = ((k + 1 : Nat) : Int))) with
       | some u => exact ⟨u, rfl⟩
       | none =>
        have := List.find?_eq_none.1 hf b2 (by rw [HNE.out y hyn]; exact List.mem_filter.2 ⟨List.mem_range.2 (HE.out y b2 b3).2, b3⟩);rw [b5] at this;simp at this;omega
      obtain ⟨i, hi1, hi2⟩ := first_in hu;have hu3 := List.find?_some hu;simp only [Bool.and_eq_true, decide_eq_true_eq] at hu3;have huN := List.mem_of_getElem? hi1;rw [HNE.out y hyn] at huN;have huE := (List.mem_filter.1 huN).2;have hun := List.mem_range.1 (List.mem_filter.1 huN).1;have hau : a < u := by
       have h0 := HF.out.self;rcases Nat.lt_or_ge a u with h | h
       ·exact h
       ·have : a = u := by omega
        rw [this, hu3.2] at h0;omega
      have HPN := Hd (hpp.snoc huE hau (by omega) (by rw [hMk]; exact hu3.2));have HGN : Hid (grd E n D a k (hd ++ [u]) = grd E n D a zn [a]) := Hd (by
       rw [← hG.out]
       conv => rhs; unfold grd
       rw [hpp.last];have h7 : (List.range n).find? (fun b => E y b && decide (a ≤ b) && decide (D b = ((k + 1 : Nat) : Int))) = some u := by
        rw [HNE.out y hyn, find_filter] at hu;rw [← hu]
        congr 1
        funext v
        rw [Bool.and_assoc]
       rw [h7])
      obtain ⟨vals2, hv1, hv2, hv3⟩ := HN.out;obtain ⟨Ay, cy, hy2, hy3⟩ := hv3 y hyn;rw [List.length_map] at hy2;have OW := HO2.out.trans hO.out;obtain ⟨bs, o3, eS, -, hbs, hcs⟩ := (row_up (hv2.only OW (by simp))).open_ (k := y) (by rw [hv1]; exact hyn);have k0 := hcs y _ hy2;have HASK : Hid (Asked wr a n x (w.heap.size + 1) w.heap.size p3 b D ((k + 1 : Nat) : Int)) := Hd { c1 := by have := (hO.out.blk HP1.out (by simp)).at_ 0; simpa using this, c2 := by have := (hO.out.blk HP2.out (by simp)).at_ 0; simpa using this, c3 := by have := hL.out.at_ 0; simpa using this, cx := (OW.cell (p := ⟨x, 0, none⟩) hxl (by simp)).trans HX.out, blk := hO.out.blk HB2.out (by simp), l1 := (hO.out.blk HP1.out (by simp)).lt, l2 := (hO.out.blk HP2.out (by simp)).lt, l3 := hL.out.lt, lx := Nat.lt_of_lt_of_le hxl OW.size };have hNy : ∀ v ∈ N y, v < n := fun v hv => by
       rw [HNE.out y hyn] at hv;exact List.mem_range.1 (List.mem_filter.1 hv).1
      have hnly := HNL.out y hyn;have hRy := row_up (hy3.only OW (by simp));have HIX := Hd (rindex_any a n x (w.heap.size + 1) w.heap.size p3 b i cy D ((k + 1 : Nat) : Int) Ay (N y) wr HASK.out hNy (by omega) (by unfold intsQ; rw [List.map_map] at hRy; exact hRy) hi2 ⟨u, hi1, hu3.1, hu3.2⟩);have hil := (List.getElem?_eq_some_iff.1 hi1).1;have HRY := Hd hRy;have HIA : Hid (((N y).map fun v : Nat => (v : Int))[i]? = some (u : Int)) := Hd (by rw [List.getElem?_map, hi1]; rfl);obtain ⟨gr, cr, er⟩ : ∃ g c, Value.slice A' hd.length c' = .slice (some ⟨g, 0, none⟩) hd.length c := by
       obtain ⟨-, ⟨-, h1⟩ | ⟨g, cap, cur, h1, -⟩⟩ := hR.out
       ·have := hpp.pos; omega
       ·exact ⟨g, cap, h1⟩
      injection er with er1 er2 er3;subst er1 er3;have m0 := (own_cell hR.out (g := gr) rfl (j := hd.length - 1) (u := .int .i64 (y : Int)) (by unfold intsQ; rw [List.getElem?_map, hyl]; rfl)).1;have lgr := own_lt hR.out (g := gr) (by simp [Value.ownBlock]);have hpos := hpp.pos;have hl0 : (0 : Int) ≤ ((hd.length - 1 : Nat) : Int) := Int.natCast_nonneg _;have hl1 : ((hd.length - 1 : Nat) : Int) < (hd.length : Int) := by omega
      have hy0 : (0 : Int) ≤ (y : Int) := Int.natCast_nonneg _;have hy1 : (y : Int) < (n : Int) := by omega
      have hk0 : (0 : Int) < ((k + 1 : Nat) : Int) := by omega
      clear hv2 hv3 hcs hpp hu hi2 huN hRy OW hyl b3 b4 b5 er2;injection eS with eS1;injection eS1 with eS2 eS3;subst eS2 eS3;have hw1 : IntKind.i64.wrap ((hd.length : Int) - 1) = ((hd.length - 1 : Nat) : Int) := by rw [IntWalk.i64_in _ (by omega)]; omega
      go_wp2_with fail
      refine (HIX.out).mono ?_;rintro e w6 ⟨rfl, O6⟩;have HR6 := Hd (own_only hR.out O6 (by simp));have HL6 := Hd (O6.blk hL.out (by simp));have HO6 := Hd (hO.out.trans O6);obtain ⟨by_, o4, eY, -, hby, hcy⟩ := (HRY.out.only O6 (by simp)).open_ (k := i) (by rw [List.length_map, List.length_map]; exact hil);have m1 := hcy i (.int .i64 (u : Int)) (by rw [List.getElem?_map, HIA.out]; rfl);subst eY;have hi0 : (0 : Int) ≤ (i : Int) := Int.natCast_nonneg _;have hi9 : (i : Int) < ((N y).length : Int) := by omega
      have hq6 : q0 ≤ w6.heap.size := by rw [← hq0]; exact HO6.out.size
      have hp6 : p3 < w6.heap.size := Nat.lt_of_lt_of_le l9 O6.size;clear hR hL hO O6 HIX HASK HRY HIA k0 m0 lgr e9 l9 f9 hcy hbs;go_wp2_with (
       at_builtin
       refine wpList_append_row _ rfl (.tmp 73) (.tmp 78) 25 rfl q0 3 i0 _ 1 8 Tryd.underlying25 hi hz0 hz1 hz2 rfl (by omega) _ hd.length (intsQ hd) (by rfl) (own_only HR6.out ((Only.refl [] w6).alloc (.cells #[.int .i64 (u : Int)] 3)) (fun _ _ => by simp)) _ _ 1 1 [.int .i64 (u : Int)] (by rfl) (by rfl) (row_lit _ _ _) (by intro z hz; simp at hz; rcases hz with rfl; rfl) (by unfold maxLen; omega) (by omega) (by simp; omega) ?_;intro v' w7 hown hgrow hat;have OA := (Only.refl [] w6).alloc (.cells #[.int .i64 (u : Int)] 3);have OV := only_grown hgrow;have hRA := own_only HR6.out OA (fun _ _ => by simp);obtain ⟨A7, c7, rfl, -, -, -, -⟩ := own_row hown;have HR7 := Hd hown;have HL7 := Hd (O7blk OV (OA.blk HL6.out (by simp)) (fun hm => hAP.out p3 (by simpa using hm) rfl));have HO7 : Hid (Only [] w2 w7) := Hd ((HO6.out.trans OA).step OV (fun i hi hl => by have := (hRA.lt i (by simpa using hi)).1; omega));have e7 := HL7.out.at_ 0;simp at e7;have l7 := HL7.out.lt;have hwk : IntKind.i64.wrap (k : Int) = (k : Int) := IntWalk.i64_in _ (by omega);clear hown hgrow hat OA OV hRA)
      have O8 : Only [] w7 (w7.alloc (.cells #[.int .i64 (k : Int)] 3)) := (Only.refl [] w7).alloc _;have HR8 : Hid ((w7.alloc (.cells #[.int .i64 (k : Int)] 3)).ownsRow q0 3 1 (.slice A7 (hd ++ [u]).length c7) (hd ++ [u]).length (intsQ (hd ++ [u]))) := Hd (by rw [intsQ_app, List.length_append]; exact own_only HR7.out O8 (by simp));have HL8 := Hd (Blk.made w7 3 #[.int .i64 (k : Int)]);have HO8 := Hd (HO7.out.trans O8);have HAP8 : Hid (∀ g ∈ (Value.slice A7 (hd ++ [u]).length c7).ownBlock.toList, g ≠ w7.heap.size) := Hd (fun g hg e => by
       have := own_lt HR7.out (g := g) (by cases A7 <;> exact hg);omega)
      have hq8 : q0 ≤ w7.heap.size := by rw [← hq0]; exact HO7.out.size
      go_roundw
      case rel => first | exact ⟨hd ++ [u], u, k, w7.heap.size, A7, c7, by simp, rfl, by simp; omega, hq8, HR8, HAP8, HPN, HL8, HGN, HO8⟩ | exact ⟨_, _, ⟨hd ++ [u], u, k, w7.heap.size, A7, c7, by simp, rfl, by simp; omega, hq8, HR8, HAP8, HPN, HL8, HGN, HO8⟩, rfl, rfl⟩
      case measure =>
       have h1 := HL8.out.at_ 0;have h2 := HL0.out;simp at h1 h2;simp [leftAt, h1, h2]
end Go.Proofs.YtlnlppabeddclaaDoor
