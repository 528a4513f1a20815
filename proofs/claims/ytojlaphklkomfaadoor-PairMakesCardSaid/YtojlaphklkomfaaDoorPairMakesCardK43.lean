/- Parts. -/
import Derived.Test.YtojlaphklkomfaaDoorPairMakesCardK3
import Derived.Test.YtojlaphklkomfaaDoorPairMakesCardK15
set_option maxRecDepth 10000
set_option maxHeartbeats 16000000
set_option linter.unusedVariables false
set_option linter.unusedSimpArgs false
namespace Go.Proofs.YtojlaphklkomfaaDoor
open Go.RowKit
open Go.Lib hiding intOf
attribute [local go_sem ↓] Go.wp_at_zero Go.wp_at_succ
def short8 (s : ByteArray) : ByteArray := s.extract 0 (min s.size 200)
theorem short8_size (s : ByteArray) : (short8 s).size ≤ 200 := by
 unfold short8;rw [ByteArray.size_extract];omega
def shortE (x : Ev6) : Ev6 := { x with s := short8 x.s, y := short8 x.y }
def few8 (l : List Ev6) : List Ev6 := (l.take 200).map shortE
theorem few8_len (l : List Ev6) : (few8 l).length ≤ 200 := by
 unfold few8;rw [List.length_map, List.length_take];omega
theorem short8_same {s : ByteArray} (h : s.size ≤ 200) : short8 s = s := by
 unfold short8;rw [Nat.min_eq_left h];exact by_inj (by rw [by_extract, List.drop_zero, List.take_of_length_le (by rw [by_length]; exact Nat.le_refl _)])
theorem few8_few8 (l : List Ev6) : few8 (few8 l) = few8 l := by
 have h1 := few8_len l;have h2 : ∀ x ∈ few8 l, shortE x = x := by
  intro x hx;obtain ⟨y, -, rfl⟩ := List.mem_map.1 hx;unfold shortE;dsimp only;rw [short8_same (short8_size y.s), short8_same (short8_size y.y)]
 generalize few8 l = xs at *;unfold few8;rw [List.take_of_length_le h1]
 conv => rhs; rw [← List.map_id xs]
 exact List.map_congr_left fun z hz => h2 z hz
theorem few8_any (A : Option Addr) (n c B : Nat) (l : List Ev6) (w : World) (hn : l.length = n) (hnm : n ≤ 9223372036854775807) (hz : ∀ x ∈ l, x.s.size ≤ 9223372036854775807 ∧ x.y.size ≤ 9223372036854775807) (hA : Row w B A (logC l)) :
  Calls Tryd.prog 6 #[.slice A n c] w fun e w' => Only [] w w' ∧ ∃ V, e = .returned V ∧ w'.ownsRow w.heap.size 44 6 V (few8 l).length (logC (few8 l)) ∧ ∃ g, V.ownBlock = some g := by
 obtain ⟨i0, hi, hz0, hz1, hz2⟩ := info_parts info_event;have HN := Hd hn;have HZ := Hd hz;have HROW := Hd hA;clear hn hz hA;go_enter Tryd.func6, Tryd.ntmps6;go_wp2_with fail
 go_loopw [3, 4] (fun V iv wr => ∃ (k : Nat), iv = .int .i64 k ∧ k ≤ n ∧ k ≤ 200 ∧ Hid (wr.ownsRow w.heap.size 44 6 V k (logC ((l.take k).map shortE))) ∧ Hid (Only [] w wr) ∧ Hid (∃ g, V.ownBlock = some g)) (fun _ iv _ => n - (intOf iv).toNat)
 case atStart => exact ⟨0, rfl, by omega, by omega, Hd (World.ownsRow_lit w #[] 0 (Nat.le_refl _) (by unfold maxLen; omega) rfl), Hd ((Only.refl [] w).alloc _), Hd ⟨_, rfl⟩⟩
 case round =>
  obtain ⟨k, rfl, hk, hk2, HOWN, HO, HGB⟩ := hrel;have hsz2 := HO.out.size
  by_cases hlt : k < n ∧ k < 200
  ·obtain ⟨hlt1, hlt2⟩ := hlt;have h01 : (k : Int) < (n : Int) := by omega
   have h02 : (k : Int) < 200 := by omega
   have hk0 : (0 : Int) ≤ (k : Int) := Int.natCast_nonneg _;have hwk : IntKind.i64.wrap ((k : Int) + 1) = (k : Int) + 1 := IntWalk.i64_in _ (by omega);obtain ⟨x, hx⟩ : ∃ x, l[k]? = some x := ⟨_, List.getElem?_eq_getElem (by rw [HN.out]; exact hlt1)⟩;obtain ⟨b, off, rfl, -, hbw, h1⟩ := row_ev HROW.out hx;obtain ⟨a0, a1, a2, a3, a4, a5⟩ := h1.only HO.out hbw (by simp);have hls := HZ.out x (List.mem_of_getElem? hx);obtain ⟨xk, xs, xy, xvk, xvn, xln⟩ := x;have HTK : Hid ((l.take (k + 1)).map shortE = (l.take k).map shortE ++ [⟨xk, xs.extract 0 (min xs.size 200), xy.extract 0 (min xy.size 200), xvk, xvn, xln⟩]) := Hd (by rw [List.take_add_one, hx]; simp [shortE, short8]);dsimp only at a0 a1 a2 a3 a4 a5 hls;obtain ⟨hl1, hl2⟩ := hls;have hlen : (logC ((l.take k).map shortE)).length = k * 6 := by rw [logC_len, List.length_map, List.length_take, HN.out]; omega
   obtain ⟨q, hq⟩ : ∃ q, q = min xs.size 200 := ⟨_, rfl⟩;obtain ⟨p, hp⟩ : ∃ p, p = min xy.size 200 := ⟨_, rfl⟩;rw [← hq, ← hp] at HTK;have hmin : min (xs.size : Int) 200 = (q : Int) := by omega
   have hmin2 : min (xy.size : Int) 200 = (p : Int) := by omega
   have hq1 : (0 : Int) ≤ (q : Int) := Int.natCast_nonneg _;have hq2 : (q : Int) ≤ (xs.size : Int) := by omega
   have hp1 : (0 : Int) ≤ (p : Int) := Int.natCast_nonneg _;have hp2 : (p : Int) ≤ (xy.size : Int) := by omega
   have hwr : b < wr.heap.size := by omega
   clear hx hq hp h1;go_upto_region 6 with (fail)
   have O2 : Only [] wr (wr.alloc (.cells #[.int .i64 xk, .string xs, .string xy, .int .i64 xvk, .int .i64 xvn, .int .i64 xln] 44)) := (Only.refl [] wr).alloc _;have bE := Blk.made wr 44 #[.int .i64 xk, .string xs, .string xy, .int .i64 xvk, .int .i64 xvn, .int .i64 xln];have HOWN2 := Hd (own_only HOWN.out O2 (by simp));have HO2 := Hd (HO.out.trans O2);have HSS := Hd (show wr.heap.size < (wr.alloc (.cells #[.int .i64 xk, .string xs, .string xy, .int .i64 xvk, .int .i64 xvn, .int .i64 xln] 44)).heap.size by simp);have HNE : Hid (∀ g, u3.ownBlock = some g → g ≠ wr.heap.size) := Hd (fun g hg => by have := (HOWN.out.lt g hg).2; omega);clear a0 a1 a2 a3 a4 a5 O2;generalize (wr.alloc (.cells #[.int .i64 xk, .string xs, .string xy, .int .i64 xvk, .int .i64 xvn, .int .i64 xln] 44)) = w2 at *;generalize wr.heap.size = ge at *;have HBE := Hd bE;have lE := bE.lt;have e1 := bE.at_ 1;have e2 := bE.at_ 2;have g1 := bE.free 1;have g2 := bE.free 2;simp at e1 e2;have RD0 := Hd fun wq (hSw : Only [] w2 wq) => aI ((hSw.blk HBE.out (by simp)).at_ 1) ((hSw.blk HBE.out (by simp)).at_ 2);refine rg1 [15, 17] [] w2 ?_;refine tQ 0 (h := trq 1 0 RD0 (h := tQ 2 (h := trq 3 0 RD0 (h := tQ 4 (h := tQ 5 (h := tQ 6 (h := tQ 7 (h := trq 8 0 RD0 (h := tQ 9 (h := trq 10 0 RD0 (h := tQ 11 (h := tQ 12 (h := tQ 13 (h := tQ 14 (h := ?_)))))))))))))));refine tst (i := 15) fun K hK => ?_;go_simp;refine hK.out _ _ (timed_over (by kernel_rfl) (timed_nil)) ?_;clear hK K;(try simp only [tdz]);refine tQ 16 (h := ?_);refine tst (i := 17) fun K hK => ?_;go_simp;refine hK.out _ _ (timed_over (by kernel_rfl) (timed_nil)) ?_;clear hK K;(try simp only [tdz]);refine tdn ?_;have bF : Blk ((w2.setCell ⟨ge, 1, none⟩ (.string (xs.extract 0 q))).setCell ⟨ge, 2, none⟩ (.string (xy.extract 0 p))).drew ge 44 #[.int .i64 xk, .string (xs.extract 0 q), .string (xy.extract 0 p), .int .i64 xvk, .int .i64 xvn, .int .i64 xln] := (bE.put 1 (.string (xs.extract 0 q))).put 2 (.string (xy.extract 0 p));have O3 : Only [ge] w2 ((w2.setCell ⟨ge, 1, none⟩ (.string (xs.extract 0 q))).setCell ⟨ge, 2, none⟩ (.string (xy.extract 0 p))).drew := (((Only.refl [ge] w2).put (p := ⟨ge, 1, none⟩) (fun _ => by simp) (.string (xs.extract 0 q))).put (p := ⟨ge, 2, none⟩) (fun _ => by simp) (.string (xy.extract 0 p))).drew;have HOWN3 := Hd (own_only HOWN2.out O3 (fun g hg hm => by simp at hm; exact HNE.out g hg hm));have HO3 := Hd (HO2.out.step O3 (fun i hi hl => by simp at hi; omega));have hsz3 := O3.size;clear bE e1 e2 g1 g2 lE O3 HOWN2 HO2 HNE HSS HBE hmin hmin2;generalize ((w2.setCell ⟨ge, 1, none⟩ (.string (xs.extract 0 q))).setCell ⟨ge, 2, none⟩ (.string (xy.extract 0 p))).drew = w3 at *;have lE := bF.lt;have e0 := bF.at_ 0;have e1 := bF.at_ 1;have e2 := bF.at_ 2;have e3 := bF.at_ 3;have e4 := bF.at_ 4;have e5 := bF.at_ 5;simp at e0 e1 e2 e3 e4 e5;have hsz4 := HO3.out.size;go_wp2_with (
    at_builtin
    refine wpList_append_row _ rfl (.tmp 37) (.tmp 39) _ rfl w.heap.size 44 i0 _ 6 64 Tryd.underlying22 hi hz0 hz1 hz2 rfl (by omega) _ k (logC ((l.take k).map shortE)) rfl (own_only HOWN3.out ((Only.refl [] w3).alloc _) (by simp)) (w3.heap.size + 1) (some ⟨w3.heap.size, 0, none⟩) 1 1 [.int .i64 xk, .string (xs.extract 0 q), .string (xy.extract 0 p), .int .i64 xvk, .int .i64 xvn, .int .i64 xln] (by rfl) (by rfl) (row_lit w3 44 #[.int .i64 xk, .string (xs.extract 0 q), .string (xy.extract 0 p), .int .i64 xvk, .int .i64 xvn, .int .i64 xln]) (by intro u hu; simp at hu; rcases hu with rfl | rfl | rfl | rfl | rfl | rfl <;> rfl) (by unfold maxLen; omega) (by omega) (by simp; omega) ?_;intro v4 w4 hown4 hgrow hat;have REL : w4.ownsRow w.heap.size 44 6 v4 (k + 1) (logC ((l.take (k + 1)).map shortE)) ∧ Only [] w w4 ∧ ∃ g, v4.ownBlock = some g := by
     refine ⟨?_, (HO3.out.alloc _).step (only_grown hgrow) (own_new HOWN3.out), hat.elim (fun h => HGB.out.elim fun g hg => ⟨g, h.trans hg⟩) (fun h => ⟨_, h⟩)⟩;rw [HTK.out, logC_snoc];exact hown4
    have HREL := Hd REL;clear REL hown4 hgrow hat hlen)
   go_wp2
   go_roundw
   case rel => exact ⟨k + 1, by go_num, by omega, by omega, Hd HREL.out.1, Hd HREL.out.2.1, Hd HREL.out.2.2⟩
   case measure => simp [intOf]; omega
  ·have HALL : Hid ((l.take k).map shortE = few8 l) := Hd (by
    unfold few8
    congr 1
    rcases Nat.lt_or_ge k n with h | h
    ·have : k = 200 := by omega
     rw [this]
    ·rw [List.take_of_length_le (by rw [HN.out]; omega), List.take_of_length_le (by rw [HN.out]; omega)])
   have hfl : (few8 l).length = k := by rw [← HALL.out, List.length_map, List.length_take, HN.out]; omega
   have hguard : (decide ((k : Int) < (n : Int)) = false ∧ decide (k < n) = false) ∨ ((k : Int) < (n : Int) ∧ decide ((k : Int) < 200) = false ∧ decide (k < 200) = false) := by
    by_cases h : k < n
    ·right
     exact ⟨by omega, decide_eq_false (by omega), decide_eq_false (by omega)⟩
    ·left
     exact ⟨decide_eq_false (by omega), decide_eq_false (by omega)⟩
   have HFIN := Hd (show wr.ownsRow w.heap.size 44 6 u3 (few8 l).length (logC (few8 l)) by rw [hfl, ← HALL.out]; exact HOWN.out);clear hlt hfl HALL HOWN;rcases hguard with ⟨h1, h2⟩ | ⟨h1, h2, h3⟩
   all_goals
    go_wp2
    go_ret
    exact ⟨HO.out, _, rfl, HFIN.out, HGB.out⟩
end Go.Proofs.YtojlaphklkomfaaDoor
