/- The type int: its zero value and its size. The package table: Map. -/
import Derived.Test.YtjhomlnlmpdklaaGreatDoorEraseStaysCardK3
import Derived.Test.YtjhomlnlmpdklaaGreatDoorEraseStaysCardK19
import Derived.Deep.OwnRows
namespace Go.Proofs.YtjhomlnlmpdklaaGreatDoor
open Go.RowKit
theorem info_int : (Tryz.prog.info? 3).map (fun i => (i.zero, i.size, i.bytes)) = some (some (.int .i64 0), 1, 8) := by kernel_rfl
end Go.Proofs.YtjhomlnlmpdklaaGreatDoor

set_option linter.unusedVariables false
set_option linter.unusedSimpArgs false
namespace Go.Proofs.YtjhomlnlmpdklaaGreatDoor
open Go.RowKit
open Go.Lib hiding intOf
attribute [local go_sem ↓] Go.wp_at_zero Go.wp_at_succ
def mapB (t l : List ByteArray) : List Int := l.map (posB t)
set_option maxRecDepth 10000 in
set_option maxHeartbeats 8000000 in
theorem map_new (A A' : Option Addr) (n c m d : Nat) (l t : List ByteArray) (w : World) (hn : l.length = n) (hm : t.length = m) (hN : n ≤ 1000) (hmm : m ≤ 1000) (hz : ∀ z ∈ t, z.size ≤ 9223372036854775807) (hA : Row w w.heap.size A (strs l)) (hA' : Row w w.heap.size A' (strs t)) (hT : UTabs w) :
  Calls Tryz.prog 87 #[.slice A n c, .slice A' m d] w fun e w' => Only [] w w' ∧ ∃ g, e = .returned (.slice (some ⟨g, 0, none⟩) n n) ∧ Row w' w'.heap.size (some ⟨g, 0, none⟩) ((mapB t l).map (Value.int .i64)) ∧ w.heap.size ≤ g := by
 have hmk := fun W => run_make_row' (P := Tryz.prog) 37 3 (.int .i64 0) 8 Tryz.underlying37 info_int rfl .i64 .i64 n (by omega) (by omega) W
 have HI := Lib.hid (istab_any A' m d _ t w hm (by omega) hz hA' hT)
 have HF := Lib.hid (fun s w' (h : Only [] w w') => find_low A' m d _ t s w' hm (by omega) (hA'.only h (by simp)))
 have HPE : Hid (∀ s, posB t s = if tabB t = true then idxOfS t s else -1) := Lib.hid (fun s => rfl)
 have HIG := Lib.hid (fun s => (idx_ge t s).1)
 obtain ⟨v, hv⟩ : ∃ v, v = tabB t := ⟨_, rfl⟩
 rw [← hv] at HI HPE
 have HN := Lib.hid hn
 have HROW := Lib.hid hA
 clear hn hm hz hA hA' hT hv
 go_enter Tryz.func87, Tryz.ntmps87
 go_wp2_with fail
 refine (HI.out).mono ?_
 rintro e w1 ⟨rfl, hO1⟩
 have HO1 := Lib.hid hO1
 have hw1 := hO1.size
 clear hO1
 have HB1 := Lib.hid (Blk.made w1 3 (madeCells #[.int .i64 0] n))
 have hms : (madeCells #[Value.int .i64 0] n).size = n := by simp [madeCells]
 go_wp2_with fail
 go_loopw [18] (fun iv wr => ∃ (k : Nat) (cs : Array Value), iv = .int .i64 k ∧ k ≤ n ∧ Hid (Blk wr w1.heap.size 3 cs) ∧ Hid (cs.size = n) ∧ Hid (∀ j, j < k → ∀ x, l[j]? = some x → cs[j]? = some (.int .i64 (posB t x))) ∧ Hid (Only [w1.heap.size] w1 wr)) (fun iv _ => n - (intOf iv).toNat)
 case atStart => exact ⟨0, _, rfl, by omega, HB1, Lib.hid hms, Lib.hid (fun j h => by omega), Lib.hid (((Only.refl [] w1).alloc _).wide (fun i hi => by cases hi))⟩
 case round =>
  obtain ⟨k, cs, rfl, hk, HB, HSZ, HCS, HO⟩ := hrel
  by_cases hlt : k < n
  ·have h01 : (k : Int) < (n : Int) := by omega
   have hk0 : (0 : Int) ≤ (k : Int) := Int.natCast_nonneg _
   have hwk : IntKind.i64.wrap ((k : Int) + 1) = (k : Int) + 1 := IntWalk.i64_in _ (by omega)
   obtain ⟨b, off, rfl, hbB, hbw, hcell⟩ := HROW.out.open_ (k := k) (by rw [strs, List.length_map, HN.out]; exact hlt)
   obtain ⟨x, hx⟩ : ∃ x, l[k]? = some x := ⟨_, List.getElem?_eq_getElem (by rw [HN.out]; exact hlt)⟩
   have hck : wr.cell? ⟨b, off + k, none⟩ = some (.string x) := (HO.out.cell (p := ⟨b, off + k, none⟩) (by show b < w1.heap.size; omega) (by show b ∉ [w1.heap.size]; simp; omega)).trans ((HO1.out.cell (p := ⟨b, off + k, none⟩) hbw (by simp)).trans (hcell k _ (by rw [strs, List.getElem?_map, hx]; rfl)))
   have f1 := HB.out.free k
   obtain ⟨old, hold⟩ : ∃ old, cs[k]? = some old := ⟨_, Array.getElem?_eq_getElem (by rw [HSZ.out]; exact hlt)⟩
   have c1 : wr.cell? ⟨w1.heap.size, k, none⟩ = some old := by rw [HB.out.at_]; exact hold
   have HXK := Lib.hid hx
   have HBP := Lib.hid (HB.out.put k (.int .i64 (-1)))
   have HOP := Lib.hid (HO.out.put (p := ⟨w1.heap.size, k, none⟩) (by simp) (.int .i64 (-1)))
   have hx2 := HPE.out x
   have hig := HIG.out x
   have HF1 := Lib.hid (HF.out x (wr.setCell ⟨w1.heap.size, k, none⟩ (.int .i64 (-1))) (HO1.out.step HOP.out (fun i hi hl => by simp at hi; omega)))
   have hsz3 : (cs.setIfInBounds k (.int .i64 (-1))).size = n := by rw [Array.size_setIfInBounds, HSZ.out]
   have HCELL : Hid (∀ (z : Int) (cs' : Array Value), cs'.size = n → cs'[k]? = some (.int .i64 z) → (∀ j, j < k → cs'[j]? = cs[j]?) → z = posB t x → ∀ j, j < k + 1 → ∀ y, l[j]? = some y → cs'[j]? = some (.int .i64 (posB t y))) := Lib.hid (fun z cs' _ h1 h2 h3 j hj y hy => by
    by_cases h : j < k
    ·rw [h2 j h]
     exact HCS.out j h y hy
    ·obtain rfl : j = k := by omega
     rw [HXK.out] at hy
     obtain rfl := Option.some.inj hy
     rw [h1, h3])
   clear hcell hx hold
   generalize idxOfS t x = z at *
   have hk1' : (k : Int) < (n : Int) := h01
   have f2 := HBP.out.free k
   obtain ⟨old2, hold2⟩ : ∃ old2, (cs.setIfInBounds k (.int .i64 (-1)))[k]? = some old2 := ⟨_, Array.getElem?_eq_getElem (by rw [hsz3]; exact hlt)⟩
   have c2 : (wr.setCell ⟨w1.heap.size, k, none⟩ (.int .i64 (-1))).cell? ⟨w1.heap.size, k, none⟩ = some old2 := by rw [HBP.out.at_]; exact hold2
   have hset1 : (cs.setIfInBounds k (.int .i64 (-1)))[k]? = some (.int .i64 (-1)) := by rw [Array.getElem?_setIfInBounds, if_pos rfl, if_pos (by rw [HSZ.out]; exact hlt)]
   have hoth1 : ∀ j, j < k → (cs.setIfInBounds k (.int .i64 (-1)))[j]? = cs[j]? := fun j hj => by rw [Array.getElem?_setIfInBounds, if_neg (by omega)]
   have HS1 := Lib.hid hset1
   have HT1 := Lib.hid hoth1
   have HZ3 := Lib.hid hsz3
   clear hold2 hset1 hoth1 hsz3
   by_cases hgo : v = true ∧ 0 ≤ z
   ·obtain ⟨hv1, hz1'⟩ := hgo
    subst hv1
    have hmx : max z 0 = z := by omega
    have hd : decide (0 ≤ z) = true := decide_eq_true hz1'
    rw [hmx, hd] at HF1
    have hpx : z = posB t x := by rw [hx2, if_pos rfl]
    have HPX := Lib.hid hpx
    have HBQ := Lib.hid (HBP.out.put k (.int .i64 z))
    have HOQ := Lib.hid (HOP.out.put (p := ⟨w1.heap.size, k, none⟩) (by simp) (.int .i64 z))
    have hset2 : ((cs.setIfInBounds k (.int .i64 (-1))).setIfInBounds k (.int .i64 z))[k]? = some (.int .i64 z) := by rw [Array.getElem?_setIfInBounds, if_pos rfl, if_pos (by rw [HZ3.out]; exact hlt)]
    have hoth2 : ∀ j, j < k → ((cs.setIfInBounds k (.int .i64 (-1))).setIfInBounds k (.int .i64 z))[j]? = cs[j]? := fun j hj => by rw [Array.getElem?_setIfInBounds, if_neg (by omega), HT1.out j hj]
    have hsz4 : ((cs.setIfInBounds k (.int .i64 (-1))).setIfInBounds k (.int .i64 z)).size = n := by rw [Array.size_setIfInBounds, HZ3.out]
    have HCS2 := Lib.hid (HCELL.out z _ hsz4 hset2 hoth2 HPX.out)
    have HZ4 := Lib.hid hsz4
    clear hset2 hoth2 hsz4 hpx hx2
    go_wp2_with fail
    refine (HF1.out).mono ?_
    rintro e w3 ⟨rfl, rfl⟩
    go_wp2
    go_roundw
    case rel => exact ⟨k + 1, _, by go_num, by omega, HBQ, HZ4, HCS2, HOQ⟩
    case measure => simp [intOf]; omega
   ·have hpx : (-1 : Int) = posB t x := by
     rw [hx2]
     split
     ·rename_i h
      have : ¬ 0 ≤ z := fun h0 => hgo ⟨h, h0⟩
      omega
     ·rfl
    have HPX := Lib.hid hpx
    have HCS2 := Lib.hid (HCELL.out (-1) _ HZ3.out HS1.out HT1.out HPX.out)
    have hguard : (v = false) ∨ (v = true ∧ decide (0 ≤ z) = false) := by
     cases v with
     | false => exact .inl rfl
     | true => exact .inr ⟨rfl, decide_eq_false (fun h0 => hgo ⟨rfl, h0⟩)⟩
    clear hgo hpx hx2
    rcases hguard with rfl | ⟨rfl, hd⟩
    ·go_wp2_with fail
     refine (HF1.out).mono ?_
     rintro e w3 ⟨rfl, rfl⟩
     go_wp2
     go_roundw
     case rel => exact ⟨k + 1, _, by go_num, by omega, HBP, HZ3, HCS2, HOP⟩
     case measure => simp [intOf]; omega
    ·rw [hd] at HF1
     go_wp2_with fail
     refine (HF1.out).mono ?_
     rintro e w3 ⟨rfl, rfl⟩
     go_wp2
     go_roundw
     case rel => exact ⟨k + 1, _, by go_num, by omega, HBP, HZ3, HCS2, HOP⟩
     case measure => simp [intOf]; omega
  ·have hkn : k = n := by omega
   subst hkn
   have hd : decide ((k : Int) < (k : Int)) = false := by simp
   have HOF := Lib.hid (HO1.out.step HO.out (T := [w1.heap.size]) (fun i hi hl => by simp at hi; omega) : Only [] w wr)
   go_wp2
   go_ret
   refine ⟨HOF.out, w1.heap.size, rfl, .inr ⟨w1.heap.size, 0, rfl, HB.out.lt, Nat.le_refl _, fun j u hu => ?_⟩, HO1.out.size⟩
   rw [Nat.zero_add, HB.out.at_]
   rw [List.getElem?_map, mapB, List.getElem?_map] at hu
   cases hx : l[j]? with
   | none => rw [hx] at hu; cases hu
   | some x =>
    rw [hx] at hu
    obtain rfl := Option.some.inj hu
    exact HCS.out j (by rw [← HN.out]; exact (List.getElem?_eq_some_iff.1 hx).1) x hx
end Go.Proofs.YtjhomlnlmpdklaaGreatDoor
