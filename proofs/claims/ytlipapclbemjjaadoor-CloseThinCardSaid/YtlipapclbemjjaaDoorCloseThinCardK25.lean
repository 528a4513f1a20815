/- The document's own graph (ref 19): Has, Next, Back, May. -/
import Derived.Test.YtlipapclbemjjaaDoorCloseThinCardK24
set_option linter.unusedVariables false
set_option linter.unusedSimpArgs false
namespace Go.Proofs.YtlipapclbemjjaaDoor
open Go.RowKit
attribute [local go_sem ↓] Go.wp_at_zero Go.wp_at_succ
theorem mem_take_succ {h : List (Int × Int)} {k : Nat} {e x : Int × Int} (he : h[k]? = some e) : x ∈ h.take (k + 1) ↔ x ∈ h.take k ∨ x = e := by
 rw [List.take_add_one, he]
 simp
set_option maxHeartbeats 1000000 in
theorem rhas_any (p : Nat) (A : Option Addr) (n c : Nat) (h : List (Int × Int)) (a b : Int) (w : World) (h1 : w.cell? ⟨p, 1, none⟩ = some (.slice A n c)) (hl : h.length = n) (hr : Row w w.heap.size A (edgeC h)) (hnn : n ≤ 1000000) :
  Calls Tryd.prog 49 #[.pointer (some ⟨p, 0, none⟩), .int .i64 a, .int .i64 b] w fun e w' => e = .returned (.bool (decide ((a, b) ∈ h))) ∧ w = w' := by
 have HR := Lib.hid hr
 have HL := Lib.hid hl
 clear hr hl
 go_enter Tryd.func49, Tryd.ntmps49
 go_wp2_with fail
 go_loopw [7] (fun i wr => ∃ k : Nat, i = .int .i64 k ∧ k ≤ n ∧ Hid ((a, b) ∉ h.take k) ∧ wr = w) (fun i _ => n - (intOf i).toNat)
 case atStart => exact ⟨0, rfl, by omega, Lib.hid (by simp), rfl⟩
 case round =>
  obtain ⟨k, rfl, hk, hno, rfl⟩ := hrel
  by_cases hlt : k < n
  ·obtain ⟨bb, off, rfl, -, hbw, hc⟩ := HR.out.open_ (k := k * 2) (by rw [edgeC_len, HL.out]; omega)
   obtain ⟨e, he⟩ : ∃ e, h[k]? = some e := ⟨_, List.getElem?_eq_getElem (by rw [HL.out]; exact hlt)⟩
   obtain ⟨x, y⟩ := e
   have hee := edgeC_get h k _ he
   have hc0 := hc _ _ hee.1
   have hc1 := hc _ _ hee.2
   rw [← Nat.add_assoc] at hc1
   have hk0 : (0 : Int) ≤ (k : Int) := Int.natCast_nonneg _
   have hk1 : (k : Int) < (n : Int) := by omega
   have HE := Lib.hid he
   clear hc hee he
   simp only at hc0 hc1
   by_cases hxa : x = a
   ·have hb1 : (x == a) = true := by simp [hxa]
    by_cases hyb : y = b
    ·have hb2 : (y == b) = true := by simp [hyb]
     have HXA := Lib.hid hxa
     have HYB := Lib.hid hyb
     clear hxa hyb
     go_wp2
     go_ret
     have hm : (a, b) ∈ h := by
      have := List.mem_of_getElem? HE.out
      rwa [HXA.out, HYB.out] at this
     simp [hm]
    ·have hb2 : (y == b) = false := by simp [hyb]
     have HYB := Lib.hid hyb
     clear hxa hyb
     go_wp2
     go_roundw
     case rel => exact ⟨k + 1, by go_num, by omega, Lib.hid (by rw [mem_take_succ HE.out]; rintro (hm | hm); exact hno.out hm; exact HYB.out (congrArg Prod.snd hm).symm), trivial⟩
     case measure => simp [intOf]; omega
   ·have hb1 : (x == a) = false := by simp [hxa]
    have HXA := Lib.hid hxa
    clear hxa
    go_wp2
    go_roundw
    case rel => exact ⟨k + 1, by go_num, by omega, Lib.hid (by rw [mem_take_succ HE.out]; rintro (hm | hm); exact hno.out hm; exact HXA.out (congrArg Prod.fst hm).symm), trivial⟩
    case measure => simp [intOf]; omega
  ·have hkn : k = n := by omega
   subst hkn
   have hno' := hno.out
   rw [List.take_of_length_le (by rw [HL.out]; exact Nat.le_refl _)] at hno'
   have hd : ((a, b) ∈ h) = False := eq_false hno'
   clear hno'
   go_wp2
   go_ret
   simp [hd]
def nextL (N : Nat) (h : List (Int × Int)) (a : Int) : List Int := ((List.range N).filter fun b : Nat => decide ((a, (b : Int)) ∈ h)).map fun b : Nat => (b : Int)
def backL (N : Nat) (h : List (Int × Int)) (b : Int) : List Int := ((List.range N).filter fun a : Nat => decide (((a : Int), b) ∈ h)).map fun a : Nat => (a : Int)
theorem nextL_succ (N : Nat) (h : List (Int × Int)) (a : Int) : nextL (N + 1) h a = nextL N h a ++ if (a, (N : Int)) ∈ h then [(N : Int)] else [] := by
 unfold nextL
 rw [List.range_succ, List.filter_append, List.map_append]
 congr 1
 simp only [List.filter_cons, List.filter_nil]
 split <;> simp_all
theorem nextL_len (N : Nat) (h : List (Int × Int)) (a : Int) : (nextL N h a).length ≤ N := by
 unfold nextL
 rw [List.length_map]
 exact Nat.le_trans (List.length_filter_le _ _) (by simp)
set_option maxHeartbeats 2000000 in
theorem rnext_any (p N : Nat) (A : Option Addr) (n c : Nat) (h : List (Int × Int)) (a : Int) (w : World) (h0 : w.cell? ⟨p, 0, none⟩ = some (.int .i64 N)) (h1 : w.cell? ⟨p, 1, none⟩ = some (.slice A n c)) (hl : h.length = n) (hr : Row w w.heap.size A (edgeC h)) (hnn : n ≤ 1000000) (hN : N ≤ 500) :
  Calls Tryd.prog 46 #[.pointer (some ⟨p, 0, none⟩), .int .i64 a] w fun e w' => ∃ v, (e = .returned v ∧ w'.ownsRow w.heap.size 3 1 v (nextL N h a).length ((nextL N h a).map (Value.int .i64))) ∧ Only [] w w' := by
 obtain ⟨i0, hi, hz0, hz1, hz2⟩ := info_parts info_int
 have HH := Lib.hid (fun (W : World) (b : Int) (hO : Only [] w W) => rhas_any p A n c h a b W ((hO.cell (p := ⟨p, 1, none⟩) (World.block_lt_of_cell? w _ h1) (by simp)).trans h1) hl (row_up (hr.only hO (by simp))) hnn)
 have HC0 := Lib.hid (fun (W : World) (hO : Only [] w W) => (hO.cell (p := ⟨p, 0, none⟩) (World.block_lt_of_cell? w _ h0) (by simp)).trans h0)
 clear h0 h1 hr hl
 go_enter Tryd.func46, Tryd.ntmps46
 go_wp2_with fail
 go_loopw [5, 6] (fun v i wr => ∃ k : Nat, i = .int .i64 k ∧ k ≤ N ∧ Only [] w wr ∧ Hid (wr.ownsRow w.heap.size 3 1 v (nextL k h a).length ((nextL k h a).map (Value.int .i64)))) (fun _ i _ => N - (intOf i).toNat)
 case atStart => exact ⟨0, rfl, by omega, (Only.refl [] w).alloc _, Lib.hid (World.ownsRow_lit w #[] 0 (Nat.le_refl _) (by unfold maxLen; omega) rfl)⟩
 case round =>
  obtain ⟨k, rfl, hk, hO, HV⟩ := hrel
  have hc0 := HC0.out wr hO
  by_cases hlt : k < N
  ·have hk1 : (k : Int) < (N : Int) := by omega
   have hkl := nextL_len k h a
   have hsz := hO.size
   have hs := nextL_succ k h a
   have HS := Lib.hid hs
   clear hs
   by_cases hin : (a, (k : Int)) ∈ h
   ·have hd : decide ((a, (k : Int)) ∈ h) = true := by simpa using hin
    have hh := HH.out wr (k : Int) hO
    rw [hd] at hh
    have HK := Lib.hid hh
    have HIN := Lib.hid hin
    clear hh hin hd
    obtain ⟨M, hM⟩ : ∃ M, M = (nextL k h a).length := ⟨_, rfl⟩
    rw [← hM] at HV hkl
    have HM := Lib.hid hM
    clear hM
    go_wp2_with fail
    refine (HK.out).mono ?_
    rintro e w1 ⟨rfl, rfl⟩
    go_wp2_with (
     at_builtin
     refine wpList_append_row _ rfl (.tmp 20) (.tmp 22) 28 rfl w.heap.size 3 i0 _ 1 8 Tryd.underlying28 hi hz0 hz1 hz2 rfl (by omega) _ M ((nextL k h a).map (Value.int .i64)) (by rfl) (own_only HV.out ((Only.refl [] wr).alloc (.cells #[.int .i64 (k : Int)] 3)) (fun _ _ => by simp)) _ _ 1 1 [.int .i64 (k : Int)] (by rfl) (by simp) (row_lit _ _ _) (by intro u hu; simp at hu; subst hu; rfl) (by unfold maxLen; omega) (by omega) (by rw [World.size_alloc]; omega) ?_
     intro v' w3 hown hgrow hat
     have OA := (Only.refl [] wr).alloc (.cells #[.int .i64 (k : Int)] 3)
     have OV := only_grown hgrow
     have HOWN := Lib.hid hown
     clear hown)
    go_roundw
    case rel =>
     have hra := own_only HV.out OA (fun _ _ => by simp)
     refine ⟨k + 1, by go_num, by omega, (hO.trans OA).step OV (fun i hi hl => by have := (hra.lt i (by simpa using hi)).1; omega), ?_⟩
     rw [HS.out, if_pos HIN.out, List.length_append, List.map_append, ← HM.out]
     exact Lib.hid HOWN.out
    case measure => simp [intOf]; omega
   ·have hd : decide ((a, (k : Int)) ∈ h) = false := by simpa using hin
    have hh := HH.out wr (k : Int) hO
    rw [hd] at hh
    have HK := Lib.hid hh
    have HIN := Lib.hid hin
    clear hh hin hd
    go_wp2_with fail
    refine (HK.out).mono ?_
    rintro e w1 ⟨rfl, rfl⟩
    go_wp2
    go_roundw
    case rel =>
     refine ⟨k + 1, by go_num, by omega, hO, ?_⟩
     rw [HS.out, if_neg HIN.out, List.append_nil]
     exact Lib.hid HV.out
    case measure => simp [intOf]; omega
  ·have hkn : k = N := by omega
   subst hkn
   have hk1 : ¬ (k : Int) < (k : Int) := by omega
   go_wp2
   go_ret
   exact ⟨⟨_, rfl, HV.out⟩, hO⟩
end Go.Proofs.YtlipapclbemjjaaDoor
