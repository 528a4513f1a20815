/- Parts. -/
import Derived.Test.YtgimobilcdkmpaaDoorBitsPlaysCardK15
import Derived.Test.YtgimobilcdkmpaaDoorBitsPlaysCardK17
import Derived.Test.YtgimobilcdkmpaaDoorBitsPlaysCardK18
import Derived.Test.YtgimobilcdkmpaaDoorBitsPlaysCardK20
set_option maxRecDepth 10000
set_option maxHeartbeats 16000000
set_option linter.unusedVariables false
set_option linter.unusedSimpArgs false
namespace Go.Proofs.YtgimobilcdkmpaaDoor
open Go.RowKit
attribute [local go_sem ↓] Go.wp_at_zero Go.wp_at_succ
theorem size18 : (Tryd.prog.info? 29).map (·.size) = some 500 := by kernel_rfl
theorem zero18 (W : World) : (zeroValue 29).run Tryd.prog W = .ok (.agg (markC 500 [])) W := by kernel_rfl
theorem build18 (W : World) : (Instr.build 29 #[]).run Tryd.prog W = .ok (.agg (markC 500 [])) W := by kernel_rfl
def okK (l : List Int) : List Int := l.filter fun z => decide (0 ≤ z ∧ z < 500)
theorem okK_succ {l : List Int} {i : Nat} {z : Int} (h : l[i]? = some z) : okK (l.take (i + 1)) = okK (l.take i) ++ (if 0 ≤ z ∧ z < 500 then [z] else []) := by
 unfold okK;rw [List.take_add_one, h, List.filter_append]
 congr 1
 by_cases hz : 0 ≤ z ∧ z < 500 <;> simp [hz]
theorem markC_one (n : Nat) (l : List Int) : (markC n l).all (·.oneCell') = true := by
 unfold markC;rw [List.all_toArray, List.all_eq_true];intro x hx;obtain ⟨i, -, rfl⟩ := List.mem_map.1 hx
 rfl
theorem rmake18_any (A : Option Addr) (m c : Nat) (l : List Int) (w : World) (hr : Row w w.heap.size A (l.map (Value.int .i64))) (hl : l.length = m) (hm : m ≤ 100000) :
  Calls Tryd.prog 9 #[.slice A m c] w fun e w' => e = .returned (.agg (markC 500 (okK l))) ∧ Only [] w w' := by
 have HR := Hd hr;have HL := Hd hl;have hal := zero18;have hbu := build18;clear hr hl;go_enter Tryd.func9, Tryd.ntmps9;go_upto_region 1 with (fail)
 have HB0 := Hd (Blk.made w 29 (markC 500 []));have HO0 := Hd ((Only.refl [] w).alloc (.cells (markC 500 []) 29));generalize (w.alloc (.cells (markC 500 []) 29)) = w1 at *;obtain ⟨g2, hg2⟩ : ∃ g2, g2 = w.heap.size := ⟨_, rfl⟩;rw [← hg2] at HB0 ⊢;have HG2 := Hd hg2;clear hg2;have HI18 := Hd (show (Tryd.prog.info? 29).map (·.size) = some (markC 500 []).size by rw [markC_size]; exact size18);go_wp2_with (
  refine wpList_store_blk rfl 29 (.tmp 3) (.tmp 5) rfl w1.heap.size 29 (markC 500 []) (markC 500 []) rfl rfl (Blk.made w1 29 (markC 500 [])) rfl HI18.out (markC_one _ _) ?_;intro w3 hb3 o3;have HB3 := Hd hb3;have hlt := HB0.out.lt;have HB2 := Hd (o3.blk (HB0.out.alloc (.cells (markC 500 []) 29)) (by simp; omega));have HO3 := Hd ((HO0.out.alloc (.cells (markC 500 []) 29)).step o3 (fun i hi hl => by simp at hi; have := HO0.out.size; omega));have HLO : Hid (w.heap.size ≤ w1.heap.size ∧ g2 ≠ w1.heap.size) := Hd ⟨HO0.out.size, by omega⟩;clear hb3 o3 hlt HB0 HO0)
 generalize w1.heap.size = g3 at *;clear hal hbu
 go_loopw [4] (fun iv wr => ∃ i : Nat, iv = .int .i64 i ∧ i ≤ m ∧ Hid (Blk wr g3 29 (markC 500 (okK (l.take i)))) ∧ Hid (Blk wr g2 29 (markC 500 [])) ∧ Hid (Only [] w wr)) (fun iv _ => m - (intOf iv).toNat)
 case atStart => exact ⟨0, rfl, by omega, HB3, HB2, HO3⟩
 case round =>
  obtain ⟨i, rfl, hi, hB3, hB2, hO⟩ := hrel;clear HB3 HB2 HO3
  by_cases hlt : i < m
  ·obtain ⟨z, hz⟩ : ∃ z, l[i]? = some z := ⟨_, List.getElem?_eq_getElem (by rw [HL.out]; exact hlt)⟩;obtain ⟨b, off, rfl, -, hbw, hcell⟩ := HR.out.open_ (k := i) (by rw [List.length_map, HL.out]; exact hlt);have d0 := (hO.out.cell (p := ⟨b, off + i, none⟩) hbw (by simp)).trans (hcell i (.int .i64 z) (by rw [List.getElem?_map, hz]; rfl));have hbr := Nat.lt_of_lt_of_le hbw hO.out.size;have HOK := Hd (okK_succ hz);have h01 : (i : Int) < (m : Int) := by omega
   have hi0 : (0 : Int) ≤ (i : Int) := Int.natCast_nonneg _;have hwi : IntKind.i64.wrap ((i : Int) + 1) = (i : Int) + 1 := IntWalk.i64_in _ (by omega);try dsimp only at d0
   clear hcell hz
   by_cases hin : 0 ≤ z ∧ z < 500
   ·obtain ⟨k, rfl⟩ : ∃ k : Nat, z = k := ⟨z.toNat, by omega⟩;have hk : k < 500 := by omega
    have HNB : Hid (Blk (wr.setCell ⟨g3, k, none⟩ (.bool true)) g3 29 (markC 500 (okK (l.take (i + 1))))) := Hd (by
     rw [HOK.out, if_pos hin, markC_snoc 500 _ k hk];exact hB3.out.put k (.bool true))
    have OP : Only [g3] wr (wr.setCell ⟨g3, k, none⟩ (.bool true)) := (Only.refl [g3] wr).put (p := ⟨g3, k, none⟩) (fun _ => by simp) _;have HNB2 := Hd (OP.blk hB2.out (by simpa using HLO.out.2));have HNO := Hd (hO.out.step OP (fun i hi hl => by simp at hi; have := HLO.out.1; omega));have k0 := (hB3.out.at_ k).trans (markC_at 500 _ k hk);have f1 := hB3.out.free k;have lb := hB3.out.lt;have hk0 : (0 : Int) ≤ (k : Int) := Int.natCast_nonneg _;have hk5 : (k : Int) < 500 := by omega
    clear OP hin;go_wp2
    go_roundw
    case rel => first | exact ⟨i + 1, by go_num, by omega, HNB, HNB2, HNO⟩ | exact ⟨_, ⟨i + 1, by go_num, by omega, HNB, HNB2, HNO⟩, rfl⟩
    case measure => simp [intOf]; omega
   ·have HNB : Hid (Blk wr g3 29 (markC 500 (okK (l.take (i + 1))))) := Hd (by
     rw [HOK.out, if_neg hin, List.append_nil];exact hB3.out)
    have hcase : z < 0 ∨ (0 ≤ z ∧ 500 ≤ z) := by omega
    clear hin;rcases hcase with h1 | ⟨h1, h2⟩
    all_goals
     go_wp2
     go_roundw
     case rel => first | exact ⟨i + 1, by go_num, by omega, HNB, hB2, hO⟩ | exact ⟨_, ⟨i + 1, by go_num, by omega, HNB, hB2, hO⟩, rfl⟩
     case measure => simp [intOf]; omega
  ·have him : i = m := by omega
   subst him;have hd : decide ((i : Int) < (i : Int)) = false := by simp
   have HTA : Hid (l.take i = l) := Hd (List.take_of_length_le (by rw [HL.out]; exact Nat.le_refl _));rw [HTA.out] at hB3;have HI19 := Hd (show (Tryd.prog.info? 29).map (·.size) = some (markC 500 (okK l)).size by rw [markC_size]; exact size18);have HI20 := Hd (show (Tryd.prog.info? 29).map (·.size) = some (markC 500 (okK l)).toList.length by rw [Array.length_toList, markC_size]; exact size18);go_wp2_with (
    refine wpList_load_mid rfl 29 (.tmp 3) rfl g3 0 rfl (markC 500 (okK l)).toList _ hB3.out.range Tryd.underlying29 rfl HI20.out ?_;refine wpList_store_blk rfl 29 (.tmp 2) (.tmp 30) rfl g2 29 (markC 500 []) (markC 500 (okK l)) rfl (by simp [Act.put, Act.eval]) hB2.out (by rw [markC_size, markC_size]) HI19.out (markC_one _ _) ?_;intro w5 hb5 o5;have HB5 := Hd hb5;have HO5 := Hd (hO.out.step o5 (fun i hi hl => by simp at hi; have := HG2.out; omega));clear hb5 o5)
   exact bodyPost_ret (results_row1 Tryd.results9 _ _ g2 29 (markC 500 (okK l)) _ rfl HB5.out Tryd.underlying29 rfl HI19.out) rfl ⟨rfl, HO5.out⟩
theorem makeW_ok (zs : List Int) : makeW (okK zs) = makeW zs := by
 unfold makeW okK;have gen : ∀ (zs : List Int) (ws : List Nat), (zs.filter fun z => decide (0 ≤ z ∧ z < 500)).foldl putW ws = zs.foldl putW ws := by
  intro zs
  induction zs with
  | nil => intro ws; rfl
  | cons z zs ih =>
   intro ws
   by_cases hz : 0 ≤ z ∧ z < 500
   ·rw [List.filter_cons, if_pos (by simpa using hz), List.foldl_cons, List.foldl_cons, ih]
   ·rw [List.filter_cons, if_neg (by simpa using hz), List.foldl_cons, ih]
    congr 1
    unfold putW;rw [if_neg (fun h => hz (mayN_iff.1 h))]
 exact gen zs noW
end Go.Proofs.YtgimobilcdkmpaaDoor
