/- The law WrTells: for every input it returns true and changes nothing that was there. No condition. -/
import Derived.Test.YthdofaoamljkfaaGreatDoorTie
import Derived.Test.YthdofaoamljkfaaGreatDoorCards
import Derived.SevenTiedAt
import Derived.Lay
import Derived.LaidOnce
import Derived.Test.YthdofaoamljkfaaGreatDoorWrTellsCardK49
set_option maxRecDepth 10000
set_option maxHeartbeats 16000000
set_option linter.unusedVariables false
set_option linter.unusedSimpArgs false
namespace Go.Proofs.YthdofaoamljkfaaGreatDoor
open Go.ChangeShapes Go.WideShapes Go.ChangeAt Go.RowKit
set_option maxRecDepth 100000 in
theorem wrTells_lifted (os : Os) (started : os.Started) (H : Type) (enc : TypeId × Value → H) :
  ReturnsInHanded {} Tryz.checked os 3 .any (fun w args => (Rows.wrTellsSpec.pre enc Tryz.prog Tryz.f3 [] false w args ∧ laidMetH Tryz.prog laidL w) ∧ sizedMet enc Tryz.prog Tryz.f3 (OpenSpec.ofChange Rows.wrTellsSpec) false w args)
   (Rows.wrTellsSpec.post enc Tryz.prog Tryz.f3 false true false false) := by
 refine handed_and_shaped (C := Tryz.checked) (X := fun w _ => laidMetH Tryz.prog laidL w) (fun _ _ _ hh h => h.of_heap hh) own started (by kernel_rfl) Tryz.func3
  (ChangeSpec.witness_shaped (enc := enc) (C := Tryz.checked) (os := os) (X := fun w _ => laidMetH Tryz.prog laidL w) false (World.laidAll Tryz.prog os laidL) #[.agg #[.slice none 0 0, .slice none 0 0, .slice none 0 0], .slice none 0 0] 8 (World.laidAll_os _ _ _) (World.shaped_of_ZipB (by kernel_rfl) (by kernel_rfl)) (by kernel_rfl) (by kernel_rfl) (by kernel_rfl) (by rw [MakeChecks.laidMetH_plain _ _ _ (by kernel_rfl)]; exact laidMet_laidAll _ (by kernel_rfl) (by kernel_rfl))) ?_
 intro W base args ds gs before hval0 hW hsh _ hL _;have hval : ∀ (j : Nat) t v, Tryz.f3.params[j]? = some t → args[j]? = some v → Value.okWide Tryz.prog W .any base t v := hval0;have hW' := hW;obtain ⟨p, q, hA0, hV, rfl, hfz, hnd⟩ := hW;have hA : DataW.TrodAll enc Tryz.prog W 0 (fun _ => true) true Tryz.f3.params.toList args.toList ds p := hA0;rw [Tryz.params3] at hA hval;obtain ⟨v0, vs0, d0, ds0, p0, q0, hargs, rfl, rfl, h0, r0⟩ := trodAll_cons hA;obtain ⟨v1, vs1, d1, ds1, p1, q1, rfl, rfl, rfl, h1, r1⟩ := trodAll_cons r0;obtain ⟨rfl, rfl, rfl⟩ := trodAll_nil r1;obtain rfl : args = #[v0, v1] := by cases args; simp_all
 obtain ⟨rfl, rfl⟩ := trodVars_none hV;obtain ⟨A00, A01, A02, c00, c01, c02, g0, rfl, hg0, ma0, mb0, mc0, za0, zb0, ob0⟩ := open_hist2 Tryz.underlying25 (by kernel_rfl) Tryz.underlying22 Tryz.underlying9 (by kernel_rfl) (by kernel_rfl) Tryz.underlying23 (by kernel_rfl) Tryz.underlying47 (by kernel_rfl) Tryz.underlying3 (by kernel_rfl) Tryz.underlying45 (by kernel_rfl) Tryz.underlying70 Tryz.underlying68 (by kernel_rfl) Tryz.underlying4 Tryz.underlying2 (by kernel_rfl) (by kernel_rfl) (by kernel_rfl) ⟨rfl, rfl⟩ ⟨rfl, rfl⟩ ⟨rfl, rfl⟩ ⟨rfl, rfl⟩ ⟨rfl, rfl⟩ ⟨rfl, rfl⟩ ⟨rfl, rfl⟩ ⟨rfl, rfl⟩ ⟨rfl, rfl⟩ ⟨rfl, rfl⟩ ⟨rfl, rfl⟩ (hval 0 25 v0 rfl rfl) h0;obtain ⟨A1, n1, c1, zs1, rfl, hn1, hc1, hz1, hw1, hr1⟩ := open_row_ints Tryz.underlying26 Tryz.underlying3 (by kernel_rfl) (hval 1 26 v1 rfl rfl) h1;clear hA0;refine (wrTells_walk A00 A01 A02 c00 c01 c02 g0 A1 n1 c1 zs1 W hg0 ma0 mb0 mc0 za0 zb0 ob0 hr1 hz1 hn1 (by unfold maxLen at hc1; omega) (tabs_of_laid hL) (mlen_of_shaped hsh) (verbs_of_laid hL)).mono fun e W' ⟨he, ho⟩ => ?_;subst he;exact ⟨_, rfl, law_post laidOut (by kernel_rfl) rfl (tb := 4) (by kernel_rfl) Tryz.underlying4 hW' rfl rfl rfl (ho.below (Nat.le_refl _) (by simp))⟩
theorem wrTells_holds : Rows.WrTellsSaid :=
 OpenClaim.holds_of_wide 3 Tryz.f3 rfl rfl rfl rfl rfl rfl rfl ⟨rfl, rfl, rfl, rfl, rfl⟩ rfl rfl rfl rfl rfl (by kernel_rfl) Tryz.func3 (by kernel_rfl)
  (of_decide_eq_true (by kernel_rfl)) (by unfold Func.isWrapper; first | (rw [if_pos (by decide +kernel)]; kernel_rfl) | (rw [if_neg (by decide +kernel)]; exact ⟨rfl, rfl⟩))
  (fun os started H enc _ => wrTells_lifted os started H enc)
set_option maxRecDepth 100000 in
theorem wrTells_card : Rows.WrTellsCardSaid :=
 Claim7.holds_tied_plain_at .later [] [.data, .data, .pinned] true (true, "aaad560aa7c59205e0ddb94ce84a8c22cee5ac4a9118b7fe876023d9859e9daa") false
  wrTells_holds (fun _ h => by cases h) (by kernel_rfl) (fun _ h => by cases h) wrTells_row_tie rfl ⟨rfl, rfl⟩ (by kernel_rfl) rfl
  (fun f fn hf hfn => by
   obtain rfl : f = 3 := Option.some.inj ((show Tryz.prog.funcNamed "deemster/deemsterlaw24.WrTells" = some 3 by kernel_rfl).symm.trans hf) |>.symm;obtain rfl : fn = Tryz.f3 := (Option.some.inj (Tryz.func3.symm.trans hfn)).symm;exact ⟨by kernel_rfl, fun j t ht => by
    rw [Tryz.params3] at ht;have hm := Array.mem_of_getElem? ht;have hall : ((Tryz.f3.params).all fun u => !Tryz.prog.wantsStandIn u) = true := by kernel_rfl
    rw [Tryz.params3] at hall;have := Array.all_eq_true'.1 hall t hm
    show Tryz.prog.wantsStandIn t = false
    simpa using this⟩)
  (by kernel_rfl)
end Go.Proofs.YthdofaoamljkfaaGreatDoor
