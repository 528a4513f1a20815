/- The document's closure. -/
import Derived.Test.YtlipapclbemjjaaDoorCloseOfCardK34
set_option linter.unusedVariables false
set_option linter.unusedSimpArgs false
namespace Go.Proofs.YtlipapclbemjjaaDoor
open Go.RowKit
attribute [local go_sem ↓] Go.wp_at_zero Go.wp_at_succ
def closeJ (n : Nat) (l : List (Int × Int)) (a j : Nat) : List (Int × Int) := closeTo n l a ++ ((reachL n l a).take j).map fun b => ((a : Int), b)
theorem closeJ_succ {n : Nat} {l : List (Int × Int)} {a j : Nat} {b : Int} (h : (reachL n l a)[j]? = some b) : closeJ n l a (j + 1) = closeJ n l a j ++ [((a : Int), b)] := by
 unfold closeJ
 rw [List.take_add_one, h, List.map_append, List.append_assoc]
 rfl
theorem closeJ_all {n : Nat} {l : List (Int × Int)} {a j : Nat} (h : (reachL n l a).length = j) : closeJ n l a j = closeTo n l (a + 1) := by
 unfold closeJ
 rw [List.take_of_length_le (by omega), closeTo_succ]
theorem closeJ_zero (n : Nat) (l : List (Int × Int)) (a : Nat) : closeJ n l a 0 = closeTo n l a := by unfold closeJ; simp
theorem closeJ_len (n : Nat) (l : List (Int × Int)) (a j : Nat) (ha : a ≤ n) : (closeJ n l a j).length ≤ n * n + n := by
 unfold closeJ
 rw [List.length_append, List.length_map, List.length_take]
 have h1 := closeTo_len n l a
 have h2 := reach_len n l a
 have h3 : n * a ≤ n * n := Nat.mul_le_mul_left n ha
 omega
set_option maxRecDepth 10000 in
set_option maxHeartbeats 8000000 in
theorem rclose_any (n : Nat) (A : Option Addr) (m c B : Nat) (l : List (Int × Int)) (w : World) (hr : Row w B A (edgeC l)) (hl : l.length = m) (hm : m ≤ 100000) (hn : n ≤ 500) (wf : WfE n l) :
  Calls Tryd.prog 13 #[.int .i64 (n : Int), .slice A m c] w fun e w' => ∃ A' c', (e = .returned (.slice A' (closeL n l).length c') ∧ Row w' w'.heap.size A' (edgeC (closeL n l))) ∧ Only [] w w' := by
 obtain ⟨ie, hie, he0, he1, he2⟩ := info_parts info_edge
 have HF := Lib.hid (fun (a : Nat) w' (O : Only [] w w') => rfrom_any n a A m c B l w' (hr.only O (by simp)) hl hm hn wf)
 have hnn : n * n ≤ 500 * 500 := Nat.mul_le_mul hn hn
 have HO0 := Lib.hid ((Only.refl [] w).alloc (.cells #[] 47))
 have HV0 : Hid ((w.alloc (.cells #[] 47)).ownsRow w.heap.size 47 2 (.slice (some ⟨w.heap.size, 0, none⟩) 0 0) (closeTo n l 0).length (edgeC (closeTo n l 0))) := Lib.hid (World.ownsRow_lit w (e := 47) (size := 2) #[] 0 (Nat.le_refl _) (by unfold maxLen; omega) rfl)
 clear hr hl wf
 go_enter Tryd.func13, Tryd.ntmps13
 go_wp2_with fail
 go_loopw [5, 6] (fun V av wr => ∃ a : Nat, av = .int .i64 a ∧ a ≤ n ∧ Hid (wr.ownsRow w.heap.size 47 2 V (closeTo n l a).length (edgeC (closeTo n l a))) ∧ Hid (Only [] w wr)) (fun _ av _ => n - (intOf av).toNat)
 case atStart => exact ⟨0, rfl, by omega, HV0, HO0⟩
 case round =>
  obtain ⟨a, rfl, ha, hV, hO⟩ := hrel
  clear HV0 HO0
  by_cases hlt : a < n
  ·have h01 : (a : Int) < (n : Int) := by omega
   have ha0 : (0 : Int) ≤ (a : Int) := Int.natCast_nonneg _
   have hwa : IntKind.i64.wrap ((a : Int) + 1) = (a : Int) + 1 := IntWalk.i64_in _ (by omega)
   go_wp2_with fail
   refine (HF.out a wr hO.out).mono ?_
   rintro e w2 ⟨A2, c2, ⟨rfl, hR⟩, O2⟩
   have HR := Lib.hid (own_lower hR (by have := hO.out.size; exact this : w.heap.size ≤ wr.heap.size))
   have HO2 := Lib.hid (hO.out.trans O2)
   have HV2 := Lib.hid (own_only hV.out O2 (by simp))
   have hq := reach_len n l a
   have HJ := Lib.hid (fun (j : Nat) (b : Int) (h : (reachL n l a)[j]? = some b) => closeJ_succ h)
   have HA : Hid (closeJ n l a (reachL n l a).length = closeTo n l (a + 1)) := Lib.hid (closeJ_all rfl)
   have HL := Lib.hid (fun j => closeJ_len n l a j ha)
   have HZ := Lib.hid (closeJ_zero n l a)
   have HMM : Hid (∀ j : Nat, j < (reachL n l a).length → ∃ b, (reachL n l a)[j]? = some b) := Lib.hid (fun j hj => ⟨_, List.getElem?_eq_getElem hj⟩)
   obtain ⟨X, hX⟩ : ∃ X, X = reachL n l a := ⟨_, rfl⟩
   rw [← hX] at HR hq HJ HA HMM ⊢
   clear O2 hR hV hO hX
   generalize hlen : X.length = q at *
   have HLX := Lib.hid hlen
   clear hlen
   go_wp2_with fail
   go_loopw [5, 8] (fun V jv wr => ∃ j : Nat, jv = .int .i64 j ∧ j ≤ q ∧ Hid (wr.ownsRow w.heap.size 3 1 (.slice A2 q c2) q (X.map (Value.int .i64))) ∧ Hid (wr.ownsRow w.heap.size 47 2 V (closeJ n l a j).length (edgeC (closeJ n l a j))) ∧ Hid (Only [] w wr)) (fun _ jv _ => q - (intOf jv).toNat)
   case atStart => exact ⟨0, rfl, by omega, HR, Lib.hid (by rw [HZ.out]; exact HV2.out), HO2⟩
   case round =>
    obtain ⟨j, rfl, hj, hR, hV, hO⟩ := hrel
    clear HR HV2 HO2
    by_cases hlt2 : j < q
    ·obtain ⟨b, hb⟩ := HMM.out j hlt2
     have HJS := Lib.hid (HJ.out j b hb)
     have hll := HL.out j
     have hRo := row_of_own hR.out
     obtain ⟨br, off, rfl, -, hbw, hcell⟩ := hRo.open_ (k := j) (by rw [List.length_map, HLX.out]; exact hlt2)
     have e0 := hcell j (.int .i64 b) (by rw [List.getElem?_map, hb]; rfl)
     have h02 : (j : Int) < (q : Int) := by omega
     have hj0 : (0 : Int) ≤ (j : Int) := Int.natCast_nonneg _
     have hwj : IntKind.i64.wrap ((j : Int) + 1) = (j : Int) + 1 := IntWalk.i64_in _ (by omega)
     have hsz := hO.out.size
     clear hcell hb hRo
     obtain ⟨M, hM⟩ : ∃ M, M = (closeJ n l a j).length := ⟨_, rfl⟩
     rw [← hM] at hV hll
     have HM := Lib.hid hM
     clear hM
     go_wp2_with (
      at_builtin
      refine wpList_append_row _ rfl (.tmp 25) (.tmp 32) 22 rfl w.heap.size 47 ie _ 2 16 Tryd.underlying22 hie he0 he1 he2 rfl (by omega) _ M (edgeC (closeJ n l a j)) (by rfl) (own_only hV.out ((Only.refl [] wr).alloc (.cells #[.int .i64 (a : Int), .int .i64 b] 47)) (fun _ _ => by simp)) _ _ 1 1 [.int .i64 (a : Int), .int .i64 b] (by rfl) (by rfl) (row_lit _ _ _) (by intro u hu; simp at hu; rcases hu with rfl | rfl <;> rfl) (by unfold maxLen; omega) (by omega) (by simp; omega) ?_
      intro v' w3 hown hgrow hat
      have OA := (Only.refl [] wr).alloc (.cells #[.int .i64 (a : Int), .int .i64 b] 47)
      have OV := only_grown hgrow
      have HOWN := Lib.hid hown
      have OW3 : Only [] w w3 := (hO.out.trans OA).step OV (fun i hi hl => by have := ((own_only hV.out OA (by simp)).lt i (by simpa using hi)).1; omega)
      have HO3 := Lib.hid OW3
      have HGR := Lib.hid OV
      have HOA := Lib.hid OA
      clear hown OA OV OW3)
     go_roundw
     case rel =>
      have HR3 := Lib.hid (own_only (own_only hR.out HOA.out (by simp)) HGR.out (fun g hg hm => own_own (own_only hR.out HOA.out (by simp)) (own_only hV.out HOA.out (by simp)) (by decide) g hg hm))
      have HV3 : Hid (w3.ownsRow w.heap.size 47 2 v' (closeJ n l a (j + 1)).length (edgeC (closeJ n l a (j + 1)))) := Lib.hid (by
       rw [HJS.out, List.length_append, edgeC_append, ← HM.out]
       exact HOWN.out)
      first | exact ⟨j + 1, by go_num, by omega, HR3, HV3, HO3⟩ | exact ⟨_, ⟨j + 1, by go_num, by omega, HR3, HV3, HO3⟩, rfl⟩
     case measure => simp [intOf]; omega
    ·have hjq : j = q := by omega
     subst hjq
     have hd : decide ((j : Int) < (j : Int)) = false := by simp
     have HE := HA
     have HVN := Lib.hid hV.out
     rw [HE.out] at HVN
     go_wp2
     go_roundw
     case rel => first | exact ⟨a + 1, by go_num, by omega, HVN, hO⟩ | exact ⟨_, ⟨a + 1, by go_num, by omega, HVN, hO⟩, rfl⟩
     case measure => simp [intOf]; omega
  ·have han : a = n := by omega
   subst han
   have hd : decide ((a : Int) < (a : Int)) = false := by simp
   have hVV := hV.out
   have hcl : closeTo a l a = closeL a l := rfl
   rw [hcl] at hVV
   obtain ⟨A', c', hV', -, -, -, hRow⟩ := own_row hVV
   have HRW := Lib.hid hRow
   subst hV'
   clear hV hRow hVV hcl
   go_wp2
   go_ret
   exact ⟨A', c', ⟨rfl, HRW.out⟩, hO.out⟩
end Go.Proofs.YtlipapclbemjjaaDoor
