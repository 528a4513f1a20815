/- Parts. -/
import Derived.Test.YtlnlppabeddclaaDoorLaw23AllK11
import Derived.Laws.MakeOwn
set_option maxRecDepth 10000
set_option maxHeartbeats 16000000
set_option linter.unusedVariables false
set_option linter.unusedSimpArgs false
namespace Go.Proofs.YtlnlppabeddclaaDoor
open Go.RowKit
theorem take_eq_of {xs ys : List Int} {k : Nat} {x y : Int} (h : xs.take k = ys.take k) (hx : xs[k]? = some x) (hy : ys[k]? = some y) : (xs.take (k + 1) = ys.take (k + 1)) ↔ x = y := by
 rw [List.take_add_one, List.take_add_one, hx, hy, h];simp
theorem sameInts_any (A A' : Option Addr) (n m c d : Nat) (xs ys : List Int) (w : World) (B B' : Nat) (hA : Row w B A (xs.map (Value.int .i64))) (hA' : Row w B' A' (ys.map (Value.int .i64)))
  (hn : xs.length = n) (hm : ys.length = m) (hnm : n ≤ 9223372036854775807) (hmm : m ≤ 9223372036854775807) :
  Calls Tryd.prog 12 #[.slice A n c, .slice A' m d] w fun e w' => e = .returned (.bool (decide (xs = ys))) ∧ ∃ k, w.drewN k = w' := by
 have HA := Hd hA;have HA' := Hd hA';have HN := Hd hn;have HM := Hd hm;clear hA hA' hn hm
 by_cases hlen : n = m
 ·subst hlen;go_enter Tryd.func12, Tryd.ntmps12;go_wp2_with fail
  go_loopw [5] (fun i wr => ∃ k q : Nat, i = .int .i64 k ∧ k ≤ n ∧ Hid (xs.take k = ys.take k) ∧ Hid (wr = w.drewN q)) (fun i _ => n - (intOf i).toNat)
  case atStart => exact ⟨0, 0, rfl, by omega, rfl, rfl⟩
  case round =>
   obtain ⟨k, q, rfl, hk, hsame, hw⟩ := hrel;have hxl := HN.out;have hyl := HM.out
   by_cases hlt : k < n
   ·obtain ⟨b, off, rfl, -, hbw, hc⟩ := HA.out.open_ (k := k) (by simpa using (by omega : k < xs.length));obtain ⟨b', off', rfl, -, hbw', hc'⟩ := HA'.out.open_ (k := k) (by simpa using (by omega : k < ys.length));obtain ⟨x, hx⟩ : ∃ x, xs[k]? = some x := ⟨_, List.getElem?_eq_getElem (by omega)⟩;obtain ⟨y, hy⟩ : ∃ y, ys[k]? = some y := ⟨_, List.getElem?_eq_getElem (by omega)⟩;have hcx : wr.cell? ⟨b, off + k, none⟩ = some (.int .i64 x) := by rw [hw.out]; exact hc k _ (by simp [hx])
    have hcy : wr.cell? ⟨b', off' + k, none⟩ = some (.int .i64 y) := by rw [hw.out]; exact hc' k _ (by simp [hy])
    have hk0 : (0 : Int) ≤ (k : Int) := Int.natCast_nonneg _;have hk1 : (k : Int) < (n : Int) := by omega
    have HX := Hd hx;have HY := Hd hy;clear hx hy hc hc' hxl hyl;go_wp2_with fail
    go_quiet (fail)
    by_cases hxy : x = y
    ·have hb : (x != y) = false := by simp [hxy]
     have HXY := Hd hxy;clear hxy;go_wp2
     go_roundw
     case rel =>
      refine ⟨k + 1, q + nq, by go_num, by omega, (take_eq_of hsame.out HX.out HY.out).2 HXY.out, ?_⟩
      show _ = _
      rw [hw.out, World.drewN_drewN]
     case measure => simp [intOf]; omega
    ·have hb : (x != y) = true := by simp [hxy]
     have HXY := Hd hxy;clear hxy;go_wp2
     go_ret
     refine ⟨?_, q + nq, ?_⟩
     ·have : xs ≠ ys := fun e => HXY.out (by
       have h1 := HX.out;have h2 := HY.out;rw [e] at h1;rw [h1] at h2;exact Option.some.inj h2)
      simp [this]
     ·rw [hw.out, World.drewN_drewN]
   ·have hge : n ≤ k := by omega
    clear hxl hyl;go_wp2
    go_ret
    refine ⟨?_, q, hw.out.symm⟩;have h1 := hsame.out;have h2 := HN.out;have h3 := HM.out;rw [List.take_of_length_le (by omega), List.take_of_length_le (by omega)] at h1;simp [h1]
 ·have hb : ((n : Int) != (m : Int)) = true := by simp; omega
  have hne : xs ≠ ys := fun e => hlen (by rw [← HN.out, ← HM.out, e]);have HNE := Hd hne;clear hlen hne;go_enter Tryd.func12, Tryd.ntmps12;go_wp2
  go_ret
  exact ⟨by simp [HNE.out], 0, rfl⟩
def noW : List Nat := [0, 0, 0, 0, 0, 0, 0, 0]
def makeW (zs : List Int) : List Nat := zs.foldl putW noW
theorem putW_len (ws : List Nat) (n : Int) : (putW ws n).length = ws.length := by unfold putW; split <;> simp
theorem makeW_take_succ (zs : List Int) (k : Nat) (z : Int) (h : zs[k]? = some z) : makeW (zs.take (k + 1)) = putW (makeW (zs.take k)) z := by
 unfold makeW;rw [List.take_add_one, h, List.foldl_append]
 rfl
theorem new_any (A : Option Addr) (n c : Nat) (zs : List Int) (w : World) (hr : Row w w.heap.size A (zs.map (Value.int .i64))) (hl : zs.length = n) (hm : n ≤ 1000000) :
  Calls Tryd.prog 38 #[.slice A n c] w fun e w' => e = .returned (.pointer (some ⟨w.heap.size, 0, none⟩)) ∧ BSet w' w.heap.size (makeW zs) ∧ Only [] w w' := by
 have HR := Hd hr;have HL := Hd hl;clear hr hl;go_enter Tryd.func38, Tryd.ntmps38;go_wp2
 go_loopw [10] (fun i wr => ∃ k : Nat, k ≤ n ∧ i = .int .i64 k ∧ BSet wr w.heap.size (makeW (zs.take k)) ∧ Only [w.heap.size] w wr) (fun i _ => n - (intOf i).toNat)
 case atStart =>
  refine ⟨0, by omega, rfl, ⟨?_, rfl, ?_⟩, (Only.refl _ _).alloc _⟩
  ·exact Blk.made _ _ _
  ·intro j;have e : ∀ j, ([0, 0, 0, 0, 0, 0, 0, 0] : List Nat).getD j 0 = 0 := fun j => by
    match j with
    | 0 | 1 | 2 | 3 | 4 | 5 | 6 | 7 => rfl
    | j + 8 => rfl
   show (noW.getD j 0) < _
   unfold noW;rw [e];omega
 case round =>
  obtain ⟨k, hk, rfl, hb, ho⟩ := hrel;have HB := Hd hb;have HO := Hd ho;clear hb ho
  by_cases hlt : k < n
  ·obtain ⟨b, off, rfl, hbB, hbw, hcell⟩ := HR.out.open_ (k := k) (by rw [List.length_map, HL.out]; exact hlt);obtain ⟨z, hzk⟩ : ∃ z, zs[k]? = some z := ⟨_, List.getElem?_eq_getElem (by rw [HL.out]; exact hlt)⟩;have hc0 : w.cell? ⟨b, off + k, none⟩ = some (.int .i64 z) := hcell k _ (by simp [hzk]);have hc1 : wr.cell? ⟨b, off + k, none⟩ = some (.int .i64 z) := by rw [HO.out.cell (p := ⟨b, off + k, none⟩) hbw (by simp; omega)]; exact hc0
   have HZ := Hd (makeW_take_succ zs k z hzk);clear hc0 hcell hzk;go_wp2_with fail
   refine (put_any _ z _ _ HB.out).mono ?_;rintro e w1 ⟨rfl, B1, O1⟩;have HB1 := Hd B1;clear B1;go_wp2
   go_roundw
   case rel => exact ⟨k + 1, by omega, by go_num, by rw [HZ.out]; exact HB1.out, HO.out.trans O1⟩
   case measure => simp [intOf]; omega
  ·have hkn : k = n := by omega
   go_wp2
   go_ret
   refine ⟨rfl, ?_, HO.out.wide (fun i hi hl => by simp at hi; omega)⟩;have := HB.out
   rwa [hkn, List.take_of_length_le (by rw [HL.out]; exact Nat.le_refl _)] at this
theorem gis_some (p : Nat) (m : Bool) (w : World) (h0 : w.cell? ⟨p, 0, none⟩ = some (.bool m)) : Calls Tryd.prog 39 #[.pointer (some ⟨p, 0, none⟩)] w fun e w' => e = .returned (.bool m) ∧ w = w' := by
 go_enter Tryd.func39, Tryd.ntmps39;go_wp2
 go_ret
 exact ⟨rfl, rfl⟩
def ndN (n : Nat) (a : Int) : Bool := decide (0 ≤ a ∧ a < n)
theorem gnode_yes (p : Nat) (A : Option Addr) (n c : Nat) (a : Int) (w : World) (h0 : w.cell? ⟨p, 0, none⟩ = some (.bool true)) (h1 : w.cell? ⟨p, 1, none⟩ = some (.slice A n c)) :
  Calls Tryd.prog 33 #[.pointer (some ⟨p, 0, none⟩), .int .i64 a] w fun e w' => e = .returned (.bool (ndN n a)) ∧ w = w' := by
 have HIS := Hd (fun W (H : W.cell? ⟨p, 0, none⟩ = some (.bool true)) => gis_some p true W H);unfold ndN;go_enter Tryd.func33, Tryd.ntmps33;go_wp2_with fail
 refine (HIS.out _ h0).mono ?_;rintro e w1 ⟨rfl, rfl⟩
 by_cases ha : 0 ≤ a
 ·by_cases hb : a < (n : Int)
  ·go_wp2
   go_ret
   simp [ha, hb]
  ·go_wp2
   go_ret
   simp [ha, hb]
 ·go_wp2
  go_ret
  simp [ha];omega
theorem info_edge : (Tryd.prog.info? 47).map (fun i => (i.zero, i.size, i.bytes)) = some (some (.agg #[.int .i64 0, .int .i64 0]), 2, 16) := by kernel_rfl
theorem info_setp : (Tryd.prog.info? 60).map (fun i => (i.zero, i.size, i.bytes)) = some (some (.pointer none), 1, 8) := by kernel_rfl
end Go.Proofs.YtlnlppabeddclaaDoor
