/- The package graph: Edges. -/
import Derived.Test.YtlipapclbemjjaaDoorCloseOfCardK17
set_option linter.unusedVariables false
set_option linter.unusedSimpArgs false
namespace Go.Proofs.YtlipapclbemjjaaDoor
open Go.RowKit
attribute [local go_sem ↓] Go.wp_at_zero Go.wp_at_succ
def rowE (O : List (List Nat)) (a : Nat) : List (Int × Int) := (allW (O.getD a [])).map fun b => ((a : Int), b)
def edgesTo (O : List (List Nat)) (k : Nat) : List (Int × Int) := (List.range k).flatMap (rowE O)
theorem edgesTo_succ (O : List (List Nat)) (k : Nat) : edgesTo O (k + 1) = edgesTo O k ++ rowE O k := by
 unfold edgesTo
 rw [List.range_succ, List.flatMap_append]
 simp
theorem rowE_len (O : List (List Nat)) (a : Nat) : (rowE O a).length ≤ 512 := by
 unfold rowE
 rw [List.length_map]
 exact allTo_len _ 8
theorem edgesTo_len (O : List (List Nat)) (k : Nat) : (edgesTo O k).length ≤ 512 * k := by
 induction k with
 | zero => simp [edgesTo]
 | succ k ih =>
  rw [edgesTo_succ, List.length_append]
  have := rowE_len O k
  omega
theorem own_mono0 {w : World} {base size : Nat} {e : TypeId} {v : Value} {n : Nat} {xs : List Value} (h : w.ownsRow base e size v n xs) : w.ownsRow 0 e size v n xs :=
 ⟨h.1, h.2.imp id fun ⟨g', cap, cur, a, _, b⟩ => ⟨g', cap, cur, a, Nat.zero_le _, b⟩⟩
set_option maxHeartbeats 4000000 in
theorem gedges_any (p n : Nat) (O I : List (List Nat)) (h : List (Int × Int)) (fp : List Nat) (w : World) (hg : Gr w p n O I h fp) (hlen : h.length ≤ 1000000) (hn : n ≤ 500) (hT : Tab w) (h00 : 0 < w.heap.size) :
  Calls Tryd.prog 27 #[.pointer (some ⟨p, 0, none⟩)] w fun e w' => ∃ v, (e = .returned v ∧ w'.ownsRow w.heap.size 47 2 v (edgesTo O n).length (edgeC (edgesTo O n))) ∧ Only [] w w' := by
 obtain ⟨i0, hi, hz0, hz1, hz2⟩ := info_parts info_edge
 have HG := Lib.hid hg
 have HMK := fun W => make_edges h.length hlen W
 obtain ⟨A1, A2, A3, c1, c2, c3, po, qi, g⟩ := hg
 have hplt := g.blk.lt
 have h0 := g.blk.at_ 0
 have h1 := g.blk.at_ 1
 have h3 := g.blk.at_ 3
 simp at h0 h1 h3
 have HMA := Lib.hid (gmark_yes p A3 h.length c3 w h0 h3)
 have e0 : (w.alloc (.cells (zeroE h.length) 47)).cell? ⟨p, 0, none⟩ = some (.bool true) := (World.cell?_alloc_lt _ _ _ hplt).trans h0
 have e1 : (w.alloc (.cells (zeroE h.length) 47)).cell? ⟨p, 1, none⟩ = some (.slice A1 n c1) := (World.cell?_alloc_lt _ _ _ hplt).trans h1
 have HLE := Lib.hid (glen_yes p A1 n c1 _ e0 e1)
 have hmade : (w.alloc (.cells (zeroE h.length) 47)).ownsRow w.heap.size 47 2 (.slice (some ⟨w.heap.size, 0, none⟩) 0 h.length) 0 [] :=
  World.ownsRow_made w (zeroE h.length) h.length (Nat.le_refl _) (by unfold maxLen; omega) (size_madeCells _ _)
 have HMD := Lib.hid hmade
 have HT := Lib.hid hT
 clear g h0 h1 h3 e0 e1 hmade hT
 go_enter Tryd.func27, Tryd.ntmps27
 go_wp2_with fail
 refine (HMA.out).mono ?_
 rintro e w1 ⟨rfl, rfl⟩
 go_wp2_with fail
 refine (HLE.out).mono ?_
 rintro e w1 ⟨rfl, rfl⟩
 go_wp2_with fail
 go_loopw [3, 12] (fun v i wr => ∃ k : Nat, i = .int .i64 k ∧ k ≤ n ∧ Only [] w wr ∧ Hid (wr.ownsRow w.heap.size 47 2 v (edgesTo O k).length (edgeC (edgesTo O k)))) (fun _ i _ => n - (intOf i).toNat)
 case atStart => exact ⟨0, rfl, by omega, (Only.refl _ _).alloc _, HMD⟩
 case round =>
  obtain ⟨k, rfl, hk, hO, HV⟩ := hrel
  by_cases hlt : k < n
  ·have hd1 : decide (k < n) = true := by simpa using hlt
   have hd2 : decide ((k : Int) < (n : Int)) = true := by simpa using hlt
   have hkl := edgesTo_len O k
   have hsz := hO.size
   have hnx := gnext_some p n O I h fp k wr (HG.out.only hO (by simp)) hlt (HT.out.only h00 hO (by simp)) (by omega)
   have hrl : rowE O k = (allW (O.getD k [])).map fun b => ((k : Int), b) := rfl
   have hN : (allW (O.getD k [])).length ≤ 512 := allTo_len _ 8
   obtain ⟨Z, hZ⟩ : ∃ Z, Z = allW (O.getD k []) := ⟨_, rfl⟩
   rw [← hZ] at hnx hrl hN
   have HNX := Lib.hid hnx
   clear hnx hZ
   obtain ⟨N, hNZ⟩ : ∃ N, N = Z.length := ⟨_, rfl⟩
   rw [← hNZ] at HNX hN
   have HNZ := Lib.hid hNZ
   have HRL := Lib.hid hrl
   clear hNZ hrl
   obtain ⟨M, hM⟩ : ∃ M, M = (edgesTo O k).length := ⟨_, rfl⟩
   rw [← hM] at HV hkl
   go_wp2_with fail
   refine (HNX.out).mono ?_
   rintro e wb ⟨v2, ⟨rfl, hv2⟩, hOb⟩
   obtain ⟨B, cb, rfl, hb1, hb2, -, hrow⟩ := own_row hv2
   have hVb := own_only HV.out hOb (fun _ _ => by simp)
   have HVB := Lib.hid hVb
   have HV2 := Lib.hid (own_mono0 hv2)
   clear hv2 hrow hVb
   go_wp2_with fail
   go_loopw [3, 19] (fun v i wr => ∃ j : Nat, i = .int .i64 j ∧ j ≤ N ∧ Only [] w wr ∧ Hid (wr.ownsRow w.heap.size 47 2 v (M + j) (edgeC (edgesTo O k ++ (rowE O k).take j))) ∧
     Hid (wr.ownsRow 0 3 1 (.slice B N cb) N (Z.map (Value.int .i64)))) (fun _ i _ => N - (intOf i).toNat)
   case atStart => exact ⟨0, rfl, by omega, hO.trans hOb, by simpa using HVB, HV2⟩
   case round =>
    obtain ⟨j, rfl, hj, hOj, HVj, HIj⟩ := hrel
    by_cases hjl : j < N
    ·obtain ⟨B', cb', hcb, -, -, -, hrow⟩ := own_row HIj.out
     simp only [Value.slice.injEq, true_and] at hcb
     obtain ⟨rfl, rfl⟩ := hcb
     obtain ⟨b, off, rfl, hbB, hbw, hcell⟩ := hrow.open_ (k := j) (by rw [List.length_map, ← HNZ.out]; exact hjl)
     obtain ⟨z, hz⟩ : ∃ z, Z[j]? = some z := ⟨_, List.getElem?_eq_getElem (by rw [← HNZ.out]; exact hjl)⟩
     have hcz := hcell j (.int .i64 z) (by rw [List.getElem?_map, hz]; rfl)
     have HZ := Lib.hid hz
     have hd3 : decide (j < N) = true := by simpa using hjl
     have hwlt : w.heap.size ≤ wr.heap.size := hOj.size
     have hML : M + 512 ≤ 512 * (k + 1) + 512 := by omega
     clear hcell hrow hz
     go_wp2_with (
      at_builtin
      refine wpList_append_row _ rfl (.tmp 23) (.tmp 27) 22 rfl w.heap.size 47 i0 _ 2 16 Tryd.underlying22 hi hz0 hz1 hz2 rfl (by omega) _ (M + j) (edgeC (edgesTo O k ++ (rowE O k).take j)) (by rfl) (own_only HVj.out ((Only.refl [] wr).alloc (.cells #[.int .i64 (k : Int), .int .i64 z] 47)) (fun _ _ => by simp)) _ _ 1 1 [.int .i64 (k : Int), .int .i64 z] (by rfl) (by simp) (row_lit _ _ _) (by intro u hu; simp at hu; rcases hu with rfl | rfl <;> rfl) (by unfold maxLen; omega) (by omega) (by rw [World.size_alloc]; omega) ?_
      intro v' w3 hown hgrow hat
      have OA := (Only.refl [] wr).alloc (.cells #[.int .i64 (k : Int), .int .i64 z] 47)
      have OV := only_grown hgrow
      have HOWN := Lib.hid hown
      clear hown)
     go_roundw
     case rel =>
      have hra := own_only HVj.out OA (fun _ _ => by simp)
      refine ⟨j + 1, by go_num, by omega, (hOj.trans OA).step OV (fun i hi hl => by have := (hra.lt i (by simpa using hi)).1; omega), ?_, ?_⟩
      ·have : edgesTo O k ++ (rowE O k).take (j + 1) = (edgesTo O k ++ (rowE O k).take j) ++ [((k : Int), z)] := by
        rw [List.take_add_one, List.append_assoc, HRL.out, List.getElem?_map, HZ.out]
        rfl
       rw [this, edgeC_append]
       exact Lib.hid HOWN.out
      ·have hia := own_only HIj.out OA (fun _ _ => by simp)
       exact Lib.hid (own_only hia OV (own_own hia hra (by decide)))
     case measure => simp [intOf]; omega
    ·have hjN : j = N := by omega
     subst hjN
     have hd3 : decide (j < j) = false := by simp
     go_wp2
     go_roundw
     case rel =>
      refine ⟨k + 1, by go_num, by omega, hOj, ?_⟩
      have h1 := HVj.out
      rw [List.take_of_length_le (by rw [HRL.out, List.length_map, ← HNZ.out]; exact Nat.le_refl _), ← edgesTo_succ] at h1
      rw [show (edgesTo O (k + 1)).length = M + j by rw [edgesTo_succ, List.length_append, ← hM, HRL.out, List.length_map, ← HNZ.out]]
      exact Lib.hid h1
     case measure => simp [intOf]; omega
  ·have hkn : k = n := by omega
   subst hkn
   have hd1 : decide (k < k) = false := by simp
   go_wp2
   go_ret
   exact ⟨_, ⟨rfl, HV.out⟩, hO⟩
end Go.Proofs.YtlipapclbemjjaaDoor
