/- Parts. -/
import Derived.Test.YtgimobilcdkmpaaDoorBitsPlaysCardK10
import Derived.Test.YtgimobilcdkmpaaDoorBitsPlaysCardK11
set_option maxRecDepth 10000
set_option maxHeartbeats 16000000
set_option linter.unusedVariables false
set_option linter.unusedSimpArgs false
namespace Go.Proofs.YtgimobilcdkmpaaDoor
open Go.RowKit
def noW : List Nat := [0, 0, 0, 0, 0, 0, 0, 0]
def makeW (zs : List Int) : List Nat := zs.foldl putW noW
theorem putW_len (ws : List Nat) (n : Int) : (putW ws n).length = ws.length := by unfold putW; split <;> simp
theorem makeW_take_succ (zs : List Int) (k : Nat) (z : Int) (h : zs[k]? = some z) : makeW (zs.take (k + 1)) = putW (makeW (zs.take k)) z := by
 unfold makeW;rw [List.take_add_one, h, List.foldl_append]
 rfl
theorem new_any (A : Option Addr) (n c : Nat) (zs : List Int) (w : World) (hr : Row w w.heap.size A (zs.map (Value.int .i64))) (hl : zs.length = n) (hm : n ≤ 1000000) :
  Calls Tryd.prog 8 #[.slice A n c] w fun e w' => e = .returned (.pointer (some ⟨w.heap.size, 0, none⟩)) ∧ BSet w' w.heap.size (makeW zs) ∧ Only [] w w' := by
 have HR := Hd hr;have HL := Hd hl;clear hr hl;go_enter Tryd.func8, Tryd.ntmps8;go_wp2
 go_loopw [10] (fun i wr => ∃ k : Nat, k ≤ n ∧ i = .int .i64 k ∧ BSet wr w.heap.size (makeW (zs.take k)) ∧ Only [w.heap.size] w wr) (fun i _ => n - (intOf i).toNat)
 case atStart =>
  refine ⟨0, by omega, rfl, ⟨?_, rfl, ?_⟩, (Only.refl _ _).alloc _⟩
  ·exact Blk.made _ _ _
  ·intro j;have e : ∀ j, ([0, 0, 0, 0, 0, 0, 0, 0] : List Nat).getD j 0 = 0 := fun j => by
    match j with
    | 0 | 1 | 2 | 3 | 4 | 5 | 6 | 7 => rfl
    | j + 8 => rfl
   show (noW.getD j 0) < _
   unfold noW;rw [e];omega
 case round =>
  obtain ⟨k, hk, rfl, hb, ho⟩ := hrel;have HB := Hd hb;have HO := Hd ho;clear hb ho
  by_cases hlt : k < n
  ·obtain ⟨b, off, rfl, hbB, hbw, hcell⟩ := HR.out.open_ (k := k) (by rw [List.length_map, HL.out]; exact hlt);obtain ⟨z, hzk⟩ : ∃ z, zs[k]? = some z := ⟨_, List.getElem?_eq_getElem (by rw [HL.out]; exact hlt)⟩;have hc0 : w.cell? ⟨b, off + k, none⟩ = some (.int .i64 z) := hcell k _ (by simp [hzk]);have hc1 : wr.cell? ⟨b, off + k, none⟩ = some (.int .i64 z) := by rw [HO.out.cell (p := ⟨b, off + k, none⟩) hbw (by simp; omega)]; exact hc0
   have HZ := Hd (makeW_take_succ zs k z hzk);clear hc0 hcell hzk;go_wp2_with fail
   refine (put_any _ z _ _ HB.out).mono ?_;rintro e w1 ⟨rfl, B1, O1⟩;have HB1 := Hd B1;clear B1;go_wp2
   go_roundw
   case rel => exact ⟨k + 1, by omega, by go_num, by rw [HZ.out]; exact HB1.out, HO.out.trans O1⟩
   case measure => simp [intOf]; omega
  ·have hkn : k = n := by omega
   go_wp2
   go_ret
   refine ⟨rfl, ?_, HO.out.wide (fun i hi hl => by simp at hi; omega)⟩;have := HB.out
   rwa [hkn, List.take_of_length_le (by rw [HL.out]; exact Nat.le_refl _)] at this
end Go.Proofs.YtgimobilcdkmpaaDoor
