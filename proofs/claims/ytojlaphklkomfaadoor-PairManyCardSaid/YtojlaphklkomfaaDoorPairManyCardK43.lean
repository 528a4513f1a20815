/- SameTexts of the same texts. The chapter's example of layer 10; works. How many events are of a kind: the document's Count. -/
import Derived.Test.YtojlaphklkomfaaDoorPairManyCardK5
import Derived.Deep.QuietTactic
import Derived.BigQuiet
import Derived.Test.YtojlaphklkomfaaDoorPairManyCardK41
import Derived.Test.YtojlaphklkomfaaDoorPairManyCardK4
set_option linter.unusedVariables false
set_option linter.unusedSimpArgs false
namespace Go.Proofs.YtojlaphklkomfaaDoor
open Go.RowKit
open Go.Lib hiding intOf
attribute [local go_sem ↓] Go.wp_at_zero Go.wp_at_succ

set_option maxHeartbeats 2000000 in
theorem sameTexts_same (A A' : Option Addr) (n c d : Nat) (xs : List ByteArray) (w : World) (B B' : Nat) (hA : Row w B A (strs xs)) (hA' : Row w B' A' (strs xs)) (hn : xs.length = n) (hnm : n ≤ 1000000) :
    Calls Tryd.prog 10 #[.slice A n c, .slice A' n d] w fun e w' => e = .returned (.bool true) ∧ ∃ k, w.drewN k = w' := by
  have HA := Lib.hid hA
  have HA' := Lib.hid hA'
  have HN := Lib.hid hn
  clear hA hA' hn
  go_enter Tryd.func10, Tryd.ntmps10
  go_wp2_with fail
  go_loopw [5] (fun i wr => ∃ k q : Nat, i = .int .i64 k ∧ k ≤ n ∧ Hid (wr = w.drewN q)) (fun i _ => n - (intOf i).toNat)
  case atStart => exact ⟨0, 0, rfl, by omega, rfl⟩
  case round =>
    obtain ⟨k, q, rfl, hk, hw⟩ := hrel
    by_cases hlt : k < n
    · obtain ⟨b, off, rfl, -, hbw, hc⟩ := HA.out.open_ (k := k) (by rw [strs, List.length_map, HN.out]; exact hlt)
      obtain ⟨b', off', rfl, -, hbw', hc'⟩ := HA'.out.open_ (k := k) (by rw [strs, List.length_map, HN.out]; exact hlt)
      obtain ⟨x, hx⟩ : ∃ x, xs[k]? = some x := ⟨_, List.getElem?_eq_getElem (by rw [HN.out]; exact hlt)⟩
      have hcx : wr.cell? ⟨b, off + k, none⟩ = some (.string x) := by rw [hw.out]; exact hc k _ (by rw [strs, List.getElem?_map, hx]; rfl)
      have hcy : wr.cell? ⟨b', off' + k, none⟩ = some (.string x) := by rw [hw.out]; exact hc' k _ (by rw [strs, List.getElem?_map, hx]; rfl)
      have hk0 : (0 : Int) ≤ (k : Int) := Int.natCast_nonneg _
      have hk1 : (k : Int) < (n : Int) := by omega
      clear hx hc hc'
      go_wp2_with fail
      go_quiet (fail)
      go_wp2
      go_roundw
      case rel =>
        refine ⟨k + 1, q + nq, by go_num, by omega, ?_⟩
        show _ = _
        rw [hw.out, World.drewN_drewN]
      case measure => simp [intOf]; omega
    · have hkn : k = n := by omega
      subst hkn
      have hd : decide ((k : Int) < (k : Int)) = false := by simp
      go_wp2
      go_ret
      exact ⟨rfl, q, hw.out.symm⟩

end Go.Proofs.YtojlaphklkomfaaDoor

set_option linter.unusedVariables false
set_option linter.unusedSimpArgs false
namespace Go.Proofs.YtojlaphklkomfaaDoor
open Go.RowKit
open Go.Lib hiding intOf
attribute [local go_sem ↓] Go.wp_at_zero Go.wp_at_succ

def ex10 : List Ev6 := [⟨1, ⟨#[115]⟩, ⟨#[]⟩, 0, 0, 0⟩, ⟨2, ⟨#[115]⟩, ⟨#[120]⟩, 0, 0, 0⟩, ⟨4, ⟨#[115]⟩, ⟨#[]⟩, 0, 0, 0⟩]
theorem ex10_e : pairE ex10 = 0 := by kernel_rfl
theorem ex10_l : pairL ex10 = 0 := by kernel_rfl
theorem ex10_h : pairH ex10 = ⟨[⟨#[115]⟩], [⟨#[120]⟩], [⟨0, 1, [⟨false, 0, 0, 0⟩]⟩]⟩ := by kernel_rfl

set_option maxRecDepth 10000 in
set_option maxHeartbeats 4000000 in
theorem works10_any (w : World) (hT : UTabs w) (hV : Verbs w) :
    Calls Tryd.prog 13 #[] w fun e w' => e = .returned (.bool true) ∧ Only [] w w' := by
  have HP := Lib.hid (phist_any (some ⟨w.heap.size, 0, none⟩) 3 3 ex10 (w.alloc (.cells (logC ex10).toArray 44)) rfl (by omega) (by have := row_lit w 44 (logC ex10).toArray; simpa using this) (fun x hx => by
    simp [ex10] at hx
    rcases hx with rfl | rfl | rfl <;> exact ⟨by decide, by decide⟩) (hT.only ((Only.refl [] w).alloc _)) (hV.only ((Only.refl [] w).alloc _)))
  have HO1 := Lib.hid ((Only.refl [] w).alloc (.cells (logC ex10).toArray 44))
  rw [ex10_e, ex10_l, ex10_h] at HP
  have hlc : (logC ex10).toArray = #[.int .i64 1, .string ⟨#[115]⟩, .string ⟨#[]⟩, .int .i64 0, .int .i64 0, .int .i64 0, .int .i64 2, .string ⟨#[115]⟩, .string ⟨#[120]⟩, .int .i64 0, .int .i64 0, .int .i64 0, .int .i64 4, .string ⟨#[115]⟩, .string ⟨#[]⟩, .int .i64 0, .int .i64 0, .int .i64 0] := rfl
  rw [hlc] at HP HO1
  clear hT hV hlc
  go_enter Tryd.func13, Tryd.ntmps13
  go_wp2_with fail
  refine (HP.out).mono ?_
  rintro e w2 ⟨B0, B1, B2, d0, d1, d2, ⟨rfl, hA⟩, O2⟩
  have HA := Lib.hid hA
  have HO2 := Lib.hid (HO1.out.trans O2)
  clear hA O2 HP HO1
  go_upto_region 2 with (fail)
  have HO3 := Lib.hid (HO2.out.alloc (.cells #[.slice B0 1 d0, .slice B1 1 d1, .slice B2 1 d2] 27))
  have HB3 := Lib.hid (Blk.made w2 27 #[.slice B0 1 d0, .slice B1 1 d1, .slice B2 1 d2])
  have HA3 := Lib.hid (HA.out.only ((Only.refl [] w2).alloc (.cells #[.slice B0 1 d0, .slice B1 1 d1, .slice B2 1 d2] 27)) (by simp))
  generalize (w2.alloc (.cells #[.slice B0 1 d0, .slice B1 1 d1, .slice B2 1 d2] 27)) = w3 at *
  generalize w2.heap.size = gh at *
  have l3 := HB3.out.lt
  have y0 := HB3.out.at_ 0
  have y1 := HB3.out.at_ 1
  have y2 := HB3.out.at_ 2
  simp at y0 y1 y2
  obtain ⟨b, off, A', cp, rfl, -, hbw, hTx, -⟩ := HA3.out.r2.at_ (k := 0) rfl
  have t1 := hTx.c1
  simp at t1
  have HST := Lib.hid (fun w' A c (O : Only [] w3 w') B hB => sameTexts_same B1 A 1 d1 c [⟨#[120]⟩] w' gh B (HA3.out.r1.only O (by simp)) hB rfl (by omega))
  have HL4 := Lib.hid (row_lit w3 9 #[.string ⟨#[120]⟩])
  clear hTx
  go_wp2_with fail
  refine (HST.out _ _ _ ((Only.refl [] w3).alloc _) _ HL4.out).mono ?_
  rintro e w4 ⟨rfl, q, rfl⟩
  go_wp2
  go_ret
  exact ⟨rfl, (HO3.out.alloc _).drewN q⟩

end Go.Proofs.YtojlaphklkomfaaDoor

set_option linter.unusedVariables false
set_option linter.unusedSimpArgs false
namespace Go.Proofs.YtojlaphklkomfaaDoor
open Go.RowKit
open Go.Lib hiding intOf
attribute [local go_sem ↓] Go.wp_at_zero Go.wp_at_succ

def cnt (kind : Int) (l : List Ev6) : Nat := l.countP fun x => decide (x.k = kind)
theorem cnt_le (kind : Int) (l : List Ev6) : cnt kind l ≤ l.length := List.countP_le_length
theorem cnt_take (kind : Int) (l : List Ev6) (k : Nat) (x : Ev6) (h : l[k]? = some x) : cnt kind (l.take (k + 1)) = cnt kind (l.take k) + if x.k = kind then 1 else 0 := by
  unfold cnt
  rw [List.take_add_one, h, List.countP_append]
  by_cases hk : x.k = kind <;> simp [hk]

set_option maxRecDepth 100000 in
set_option maxHeartbeats 4000000 in
theorem rcount_any (A : Option Addr) (n c B : Nat) (l : List Ev6) (kind : Int) (w : World) (hn : l.length = n) (hnm : n ≤ 1000000) (hA : Row w B A (logC l)) :
    Calls Tryd.prog 14 #[.slice A n c, .int .i64 kind] w fun e w' => e = .returned (.int .i64 (cnt kind l)) ∧ Only [] w w' := by
  have HN := Lib.hid hn
  have HROW := Lib.hid hA
  clear hn hA
  go_enter Tryd.func14, Tryd.ntmps14
  go_wp2_with fail
  go_loopw [5, 6] (fun cv iv wr => ∃ (k q : Nat), iv = .int .i64 k ∧ k ≤ n ∧ cv = .int .i64 q ∧ q ≤ k ∧ Hid (q = cnt kind (l.take k)) ∧ Hid (Only [] w wr)) (fun _ iv _ => n - (intOf iv).toNat)
  case atStart => exact ⟨0, 0, rfl, by omega, rfl, by omega, Lib.hid rfl, Lib.hid (Only.refl [] w)⟩
  case round =>
    obtain ⟨k, q, rfl, hk, rfl, hq, hQ, hO⟩ := hrel
    by_cases hlt : k < n
    · have h01 : (k : Int) < (n : Int) := by omega
      have hk0 : (0 : Int) ≤ (k : Int) := Int.natCast_nonneg _
      have hwk : IntKind.i64.wrap ((k : Int) + 1) = (k : Int) + 1 := IntWalk.i64_in _ (by omega)
      have hwq : IntKind.i64.wrap ((q : Int) + 1) = (q : Int) + 1 := IntWalk.i64_in _ (by omega)
      obtain ⟨x, hx⟩ : ∃ x, l[k]? = some x := ⟨_, List.getElem?_eq_getElem (by rw [HN.out]; exact hlt)⟩
      obtain ⟨b, off, rfl, -, hbw, h1⟩ := row_ev HROW.out hx
      obtain ⟨a0, a1, a2, a3, a4, a5⟩ := h1.only hO.out hbw (by simp)
      have HCT := Lib.hid (cnt_take kind l k x hx)
      obtain ⟨xk, xs, xy, xvk, xvn, xln⟩ := x
      dsimp only at a0 a1 a2 a3 a4 a5 HCT
      clear hx h1 a1 a2 a3 a4 a5
      by_cases he : xk = kind
      · subst he
        have HQ2 : Hid (q + 1 = cnt xk (l.take (k + 1))) := Lib.hid (by rw [HCT.out, if_pos rfl, hQ.out])
        go_wp2
        go_roundw
        case rel => exact ⟨k + 1, q + 1, by go_num, by omega, by go_num, by omega, HQ2, hO⟩
        case measure => simp [intOf]; omega
      · have hne : (xk == kind) = false := by simpa using he
        have HQ2 : Hid (q = cnt kind (l.take (k + 1))) := Lib.hid (by rw [HCT.out, if_neg he, hQ.out]; rfl)
        clear he
        go_wp2
        go_roundw
        case rel => exact ⟨k + 1, q, by go_num, by omega, rfl, by omega, HQ2, hO⟩
        case measure => simp [intOf]; omega
    · have hkn : k = n := by omega
      subst hkn
      have hd : decide ((k : Int) < (k : Int)) = false := by simp
      have hall : q = cnt kind l := by rw [hQ.out, List.take_of_length_le (by rw [HN.out]; exact Nat.le_refl _)]
      have HALL := Lib.hid hall
      clear hall
      go_wp2
      go_ret
      exact ⟨by rw [HALL.out]; rfl, hO.out⟩

end Go.Proofs.YtojlaphklkomfaaDoor
