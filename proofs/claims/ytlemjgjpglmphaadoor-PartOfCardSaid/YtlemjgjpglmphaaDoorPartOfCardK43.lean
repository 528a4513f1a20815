/- Parts. -/
import Derived.Test.YtlemjgjpglmphaaDoorPartOfCardK42
set_option maxRecDepth 10000
set_option maxHeartbeats 16000000
set_option linter.unusedVariables false
set_option linter.unusedSimpArgs false
namespace Go.Proofs.YtlemjgjpglmphaaDoor
open Go.RowKit
open Go.Lib
attribute [local go_sem ↓] Go.wp_at_zero Go.wp_at_succ
theorem hasInt_any (A : Option Addr) (n c B : Nat) (zs : List Int) (x : Int) (w : World) (hn : zs.length = n) (hnm : n ≤ 1000000) (hA : Row w B A (zs.map (Value.int .i64))) :
  Calls Tryd.prog 20 #[.slice A n c, .int .i64 x] w fun e w' => e = .returned (.bool (decide (x ∈ zs))) ∧ w = w' := by
 have HA := Hd hA;have HN := Hd hn;clear hA hn;go_enter Tryd.func20, Tryd.ntmps20;go_wp2_with fail
 go_loopw [5] (fun iv wr => ∃ k : Nat, iv = .int .i64 k ∧ k ≤ n ∧ Hid (∀ j y, j < k → zs[j]? = some y → y ≠ x) ∧ wr = w) (fun iv _ => n - (intOf iv).toNat)
 case atStart => exact ⟨0, rfl, by omega, Hd (fun j y h => by omega), rfl⟩
 case round =>
  obtain ⟨k, rfl, hk, hno, rfl⟩ := hrel
  by_cases hlt : k < n
  ·obtain ⟨b, off, rfl, -, hbw, hc⟩ := HA.out.open_ (k := k) (by rw [List.length_map, HN.out]; exact hlt);obtain ⟨y, hy⟩ : ∃ y, zs[k]? = some y := ⟨_, List.getElem?_eq_getElem (by rw [HN.out]; exact hlt)⟩;have hcy : wr.cell? ⟨b, off + k, none⟩ = some (.int .i64 y) := hc k _ (by rw [List.getElem?_map, hy]; rfl);have h01 : (k : Int) < (n : Int) := by omega
   have hk0 : (0 : Int) ≤ (k : Int) := Int.natCast_nonneg _;have hwk : IntKind.i64.wrap ((k : Int) + 1) = (k : Int) + 1 := IntWalk.i64_in _ (by omega);have HY := Hd hy;clear hc hy
   by_cases hxy : y = x
   ·subst hxy;have HM : Hid (decide (y ∈ zs) = true) := Hd (decide_eq_true (List.mem_of_getElem? HY.out));go_wp2
    go_ret
    exact ⟨by rw [HM.out]; rfl, rfl⟩
   ·have hb : (y == x) = false := by simpa using hxy
    have HXY := Hd hxy;clear hxy;go_wp2
    go_roundw
    case rel =>
     refine ⟨k + 1, by go_num, by omega, Hd (fun j y' hj hy' => ?_), trivial⟩
     by_cases h : j < k
     ·exact hno.out j y' h hy'
     ·obtain rfl : j = k := by omega
      rw [HY.out] at hy';obtain rfl := Option.some.inj hy';exact HXY.out
    case measure => simp [intOf]; omega
  ·have hkn : k = n := by omega
   subst hkn;have hd : decide ((k : Int) < (k : Int)) = false := by simp
   have H : Hid (decide (x ∈ zs) = false) := Hd (decide_eq_false (fun hm => by
    obtain ⟨j, hj⟩ := List.mem_iff_getElem?.1 hm;exact hno.out j x (by rw [← HN.out]; exact (List.getElem?_eq_some_iff.1 hj).1) hj rfl))
   go_wp2
   go_ret
   exact ⟨by rw [H.out]; rfl, rfl⟩
end Go.Proofs.YtlemjgjpglmphaaDoor
namespace Go.Proofs.YtlemjgjpglmphaaDoor
open Go.RowKit
attribute [local go_sem ↓] Go.wp_at_zero Go.wp_at_succ
theorem reach_self {n : Nat} {h : List (Int × Int)} {a b : Nat} (hb : b < n) : decide ((b : Int) ∈ reachL n h a) = wayB n h a b := by
 cases hw : wayB n h a b with
 | true => exact decide_eq_true (mem_reach.2 ⟨b, rfl, hb, hw⟩)
 | false =>
  refine decide_eq_false fun hm => ?_;obtain ⟨c, hc, -, h2⟩ := mem_reach.1 hm;obtain rfl : b = c := by omega
  rw [hw] at h2
  cases h2

end Go.Proofs.YtlemjgjpglmphaaDoor
namespace Go.Proofs.YtlemjgjpglmphaaDoor

open Go.RowKit
theorem rmay19_any (n : Int) (A : Option Addr) (m c : Nat) (l : List (Int × Int)) (w : World) (hr : Row w w.heap.size A (edgeC l)) (hl : l.length = m) (hm : m ≤ 1000000) :
  Calls Tryd.prog 18 #[.int .i64 n, .slice A m c] w fun e w' => e = .returned (.bool (mayL n l)) ∧ w = w' := by
 by_cases hn : n < 0 ∨ 500 < n
 ·have : mayL n l = false := by unfold mayL; rw [decide_eq_false (by omega)]; rfl
  rw [this];exact rmay_out n A m c w hn
 ·obtain ⟨q, rfl⟩ : ∃ q : Nat, n = q := ⟨n.toNat, by omega⟩;have : mayL (q : Int) l = l.all (goodE q) := by unfold mayL; rw [decide_eq_true (by omega), Bool.true_and, Int.toNat_natCast]
  rw [this];exact rmay_in q A m c l w (by omega) hr hl hm
end Go.Proofs.YtlemjgjpglmphaaDoor
