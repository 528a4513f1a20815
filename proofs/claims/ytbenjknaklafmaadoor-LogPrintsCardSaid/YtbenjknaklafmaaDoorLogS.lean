/- Events in a slice; the document's Same of the same; the law's works of layer 8. -/
import Derived.Test.YtbenjknaklafmaaDoorLogP
import Derived.Deep.QuietTactic
import Derived.BigQuiet
set_option linter.unusedVariables false
set_option linter.unusedSimpArgs false
namespace Go.Proofs.YtbenjknaklafmaaDoor
open Go.RowKit
open Go.Lib hiding intOf
attribute [local go_sem ↓] Go.wp_at_zero Go.wp_at_succ

/-- The cells from a place on are an event's. -/
structure EvAt (w : World) (b o : Nat) (x : Ev6) : Prop where
  c0 : w.cell? ⟨b, o, none⟩ = some (.int .i64 x.k)
  c1 : w.cell? ⟨b, o + 1, none⟩ = some (.string x.s)
  c2 : w.cell? ⟨b, o + 2, none⟩ = some (.string x.y)
  c3 : w.cell? ⟨b, o + 3, none⟩ = some (.int .i64 x.vk)
  c4 : w.cell? ⟨b, o + 4, none⟩ = some (.int .i64 x.vn)
  c5 : w.cell? ⟨b, o + 5, none⟩ = some (.int .i64 x.ln)
theorem EvAt.only {S : List Nat} {w w' : World} {b o : Nat} {x : Ev6} (h : EvAt w b o x) (ho : Only S w w') (hb : b < w.heap.size) (hs : b ∉ S) : EvAt w' b o x :=
  ⟨(ho.cell (p := ⟨b, o, none⟩) hb hs).trans h.c0, (ho.cell (p := ⟨b, o + 1, none⟩) hb hs).trans h.c1, (ho.cell (p := ⟨b, o + 2, none⟩) hb hs).trans h.c2, (ho.cell (p := ⟨b, o + 3, none⟩) hb hs).trans h.c3,
    (ho.cell (p := ⟨b, o + 4, none⟩) hb hs).trans h.c4, (ho.cell (p := ⟨b, o + 5, none⟩) hb hs).trans h.c5⟩
theorem row_ev {w : World} {B : Nat} {A : Option Addr} {l : List Ev6} (h : Row w B A (logC l)) {k : Nat} {x : Ev6} (hk : l[k]? = some x) : ∃ b off, A = some ⟨b, off, none⟩ ∧ b < B ∧ b < w.heap.size ∧ EvAt w b (off + k * 6) x := by
  have hlt := (List.getElem?_eq_some_iff.1 hk).1
  obtain ⟨b, off, rfl, h1, h2, hc⟩ := h.open_ (k := k * 6) (by rw [logC_len]; omega)
  have g := logC_get l k x hk
  refine ⟨b, off, rfl, h1, h2, ⟨?_, ?_, ?_, ?_, ?_, ?_⟩⟩
  · exact hc (k * 6) _ (g 0 (by omega))
  · rw [Nat.add_assoc]; exact hc _ _ (g 1 (by omega))
  · rw [Nat.add_assoc]; exact hc _ _ (g 2 (by omega))
  · rw [Nat.add_assoc]; exact hc _ _ (g 3 (by omega))
  · rw [Nat.add_assoc]; exact hc _ _ (g 4 (by omega))
  · rw [Nat.add_assoc]; exact hc _ _ (g 5 (by omega))

set_option maxRecDepth 10000 in
set_option maxHeartbeats 2000000 in
theorem sameLog_eq (A A' : Option Addr) (n c d : Nat) (l : List Ev6) (w : World) (B B' : Nat) (hA : Row w B A (logC l)) (hA' : Row w B' A' (logC l)) (hn : l.length = n) (hnm : n ≤ 1000000) :
    Calls Tryd.prog 9 #[.slice A n c, .slice A' n d] w fun e w' => e = .returned (.bool true) ∧ ∃ k, w.drewN k = w' := by
  have HA := Lib.hid hA
  have HA' := Lib.hid hA'
  have HN := Lib.hid hn
  clear hA hA' hn
  go_enter Tryd.func9, Tryd.ntmps9
  go_wp2_with fail
  go_loopw [5] (fun i wr => ∃ k q : Nat, i = .int .i64 k ∧ k ≤ n ∧ Hid (wr = w.drewN q)) (fun i _ => n - (intOf i).toNat)
  case atStart => exact ⟨0, 0, rfl, by omega, rfl⟩
  case round =>
    obtain ⟨k, q, rfl, hk, hw⟩ := hrel
    by_cases hlt : k < n
    · obtain ⟨x, hx⟩ : ∃ x, l[k]? = some x := ⟨_, List.getElem?_eq_getElem (by rw [HN.out]; exact hlt)⟩
      obtain ⟨b, off, rfl, -, hbw, h1⟩ := row_ev HA.out hx
      obtain ⟨b', off', rfl, -, hbw', h2⟩ := row_ev HA'.out hx
      obtain ⟨a0, a1, a2, a3, a4, a5⟩ := (show EvAt wr b (off + k * 6) x by rw [hw.out]; exact h1.only ((Only.refl [] w).drewN q) hbw (by simp))
      obtain ⟨d0, d1, d2, d3, d4, d5⟩ := (show EvAt wr b' (off' + k * 6) x by rw [hw.out]; exact h2.only ((Only.refl [] w).drewN q) hbw' (by simp))
      obtain ⟨xk, xs, xy, xvk, xvn, xln⟩ := x
      dsimp only at a0 a1 a2 a3 a4 a5 d0 d1 d2 d3 d4 d5
      have hk0 : (0 : Int) ≤ (k : Int) := Int.natCast_nonneg _
      have hk1 : (k : Int) < (n : Int) := by omega
      have hs1 : (xs.toList == xs.toList) = true := by simp
      have hs2 : (xy.toList == xy.toList) = true := by simp
      have hwk : IntKind.i64.wrap ((k : Int) + 1) = (k : Int) + 1 := IntWalk.i64_in _ (by omega)
      clear hx h1 h2
      go_wp2_with fail
      go_quiet (fail)
      go_wp2
      go_roundw
      case rel =>
        refine ⟨k + 1, q + nq, by go_num, by omega, ?_⟩
        show _ = _
        rw [hw.out, World.drewN_drewN]
      case measure => simp [intOf]; omega
    · have hkn : k = n := by omega
      subst hkn
      have hd : decide ((k : Int) < (k : Int)) = false := by simp
      go_wp2
      go_ret
      exact ⟨rfl, q, hw.out.symm⟩

def ex8 : ByteArray := ⟨#[98, 101, 103, 105, 110, 32, 115, 10, 10, 111, 107, 32, 115]⟩
theorem ex8_parse : logParse ex8 = ([⟨1, ⟨#[115]⟩, ⟨#[]⟩, 0, 0, 1⟩, ⟨4, ⟨#[115]⟩, ⟨#[]⟩, 0, 0, 3⟩], 0, 0) := by kernel_rfl
theorem ex8_rows : (linesOf (by_ ex8)).all (fun x => decide (x.length ≤ 65535)) = true := by kernel_rfl

set_option maxRecDepth 10000 in
set_option maxHeartbeats 2000000 in
theorem works08_any (w : World) (hT : UTabs w) (hM : MLen w) (hV : Verbs w) :
    Calls Tryd.prog 10 #[] w fun e w' => e = .returned (.bool true) ∧ Only [] w w' := by
  have HP := Lib.hid (logparse_any ex8 w (by decide) (fun x hx => by simpa using List.all_eq_true.1 ex8_rows x hx) hT hM hV)
  rw [ex8_parse] at HP
  unfold ex8 at HP
  clear hT hM hV
  go_enter Tryd.func10, Tryd.ntmps10
  go_wp2_with fail
  refine (HP.out).mono ?_
  rintro e w1 ⟨O1, V, rfl, hown⟩
  obtain ⟨A, c, hVs, -, -, -, hrow⟩ := own_row hown
  have hVs : V = .slice A 2 c := hVs
  subst hVs
  obtain ⟨b, off, rfl, -, hbw, h1⟩ := row_ev hrow (k := 1) rfl
  obtain ⟨a0, a1, a2, a3, a4, a5⟩ := h1
  simp at a0 a1 a2 a3 a4 a5
  have HO1 := Lib.hid O1
  clear O1 hown hrow
  go_wp2
  go_ret
  exact ⟨rfl, HO1.out⟩

end Go.Proofs.YtbenjknaklafmaaDoor
