/- The law WorldAll: for every input it returns true and changes nothing that was there. No condition. -/
import Derived.Test.YtjfbeeogiejopaaGreatDoorWorldAllCardK1
import Derived.Test.YtjfbeeogiejopaaGreatDoorTie
import Derived.Test.YtjfbeeogiejopaaGreatDoorCards
import Derived.SevenTiedAt
import Derived.Lay
import Derived.LaidOnce
import Derived.Test.YtjfbeeogiejopaaGreatDoorWorldAllCardK49
import Derived.Test.YtjfbeeogiejopaaGreatDoorWorldAllCardK22
import Derived.Test.YtjfbeeogiejopaaGreatDoorWorldAllCardK5
set_option maxRecDepth 10000
set_option maxHeartbeats 16000000
set_option linter.unusedVariables false
set_option linter.unusedSimpArgs false
namespace Go.Proofs.YtjfbeeogiejopaaGreatDoor
open Go.ChangeShapes Go.WideShapes Go.ChangeAt Go.RowKit
set_option maxRecDepth 100000 in
theorem worldAll_lifted (os : Os) (started : os.Started) (H : Type) (enc : TypeId × Value → H) :
  ReturnsInHanded {} Tryz.checked os 8 .any (fun w args => (Rows.worldAllSpec.pre enc Tryz.prog Tryz.f8 [] false w args ∧ laidMetH Tryz.prog laidL w) ∧ sizedMet enc Tryz.prog Tryz.f8 (OpenSpec.ofChange Rows.worldAllSpec) false w args)
   (Rows.worldAllSpec.post enc Tryz.prog Tryz.f8 false true false false) := by
 refine handed_and_shaped (C := Tryz.checked) (X := fun w _ => laidMetH Tryz.prog laidL w) (fun _ _ _ hh h => h.of_heap hh) own started (by kernel_rfl) Tryz.func8
  (ChangeSpec.witness_shaped (enc := enc) (C := Tryz.checked) (os := os) (X := fun w _ => laidMetH Tryz.prog laidL w) false (World.laidAll Tryz.prog os laidL) #[.agg #[.slice none 0 0, .slice none 0 0, .slice none 0 0]] 8 (World.laidAll_os _ _ _) (World.shaped_of_ZipB (by kernel_rfl) (by kernel_rfl)) (by kernel_rfl) (by kernel_rfl) (by kernel_rfl) (by rw [MakeChecks.laidMetH_plain _ _ _ (by kernel_rfl)]; exact laidMet_laidAll _ (by kernel_rfl) (by kernel_rfl))) ?_
 intro W base args ds gs before hval0 hW hsh _ hL _;have hval : ∀ (j : Nat) t v, Tryz.f8.params[j]? = some t → args[j]? = some v → Value.okWide Tryz.prog W .any base t v := hval0;have hW' := hW;obtain ⟨p, q, hA0, hV, rfl, hfz, hnd⟩ := hW;have hA : DataW.TrodAll enc Tryz.prog W 0 (fun _ => true) true Tryz.f8.params.toList args.toList ds p := hA0;rw [Tryz.params8] at hA hval;obtain ⟨v0, vs0, d0, ds0, p0, q0, hargs, rfl, rfl, h0, r0⟩ := trodAll_cons hA;obtain ⟨rfl, rfl, rfl⟩ := trodAll_nil r0;obtain rfl : args = #[v0] := by cases args; simp_all
 obtain ⟨rfl, rfl⟩ := trodVars_none hV;obtain ⟨A00, A01, A02, c00, c01, c02, g0, rfl, hg0, ma0, mb0, mc0, za0, zb0, ob0⟩ := open_hist2 Tryz.underlying25 (by kernel_rfl) Tryz.underlying22 Tryz.underlying9 (by kernel_rfl) (by kernel_rfl) Tryz.underlying23 (by kernel_rfl) Tryz.underlying46 (by kernel_rfl) Tryz.underlying3 (by kernel_rfl) Tryz.underlying44 (by kernel_rfl) Tryz.underlying48 Tryz.underlying38 (by kernel_rfl) Tryz.underlying4 Tryz.underlying2 (by kernel_rfl) (by kernel_rfl) (by kernel_rfl) ⟨rfl, rfl⟩ ⟨rfl, rfl⟩ ⟨rfl, rfl⟩ ⟨rfl, rfl⟩ ⟨rfl, rfl⟩ ⟨rfl, rfl⟩ ⟨rfl, rfl⟩ ⟨rfl, rfl⟩ ⟨rfl, rfl⟩ ⟨rfl, rfl⟩ ⟨rfl, rfl⟩ (hval 0 25 v0 rfl rfl) h0;clear hA0;refine (worldAll_walk A00 A01 A02 c00 c01 c02 g0 W hg0 ma0 mb0 mc0 za0 zb0 ob0 (tabs_of_laid hL) (mlen_of_shaped hsh) (verbs_of_laid hL)).mono fun e W' ⟨he, ho⟩ => ?_;subst he;exact ⟨_, rfl, law_post laidOut (by kernel_rfl) rfl (tb := 4) (by kernel_rfl) Tryz.underlying4 hW' rfl rfl rfl (ho.below (Nat.le_refl _) (by simp))⟩
theorem worldAll_holds : Rows.WorldAllSaid :=
 OpenClaim.holds_of_wide 8 Tryz.f8 rfl rfl rfl rfl rfl rfl rfl ⟨rfl, rfl, rfl, rfl, rfl⟩ rfl rfl rfl rfl rfl (by kernel_rfl) Tryz.func8 (by kernel_rfl)
  (of_decide_eq_true (by kernel_rfl)) (by unfold Func.isWrapper; first | (rw [if_pos (by decide +kernel)]; kernel_rfl) | (rw [if_neg (by decide +kernel)]; exact ⟨rfl, rfl⟩))
  (fun os started H enc _ => worldAll_lifted os started H enc)
set_option maxRecDepth 100000 in
theorem worldAll_card : Rows.WorldAllCardSaid :=
 Claim7.holds_tied_plain_at .later [] [.data, .data, .pinned] true (true, "c8a18cfeb3f95a6c6e7f7a3daefb9ce08cab8bc67ff94f88b9c4205035b1ec3c") true
  worldAll_holds (fun _ h => by cases h) (by kernel_rfl) (fun _ h => by cases h) worldAll_row_tie rfl ⟨rfl, rfl⟩ (by kernel_rfl) rfl
  (fun f fn hf hfn => by
   obtain rfl : f = 8 := Option.some.inj ((show Tryz.prog.funcNamed "deemster/deemsterlaw16.WorldAll" = some 8 by kernel_rfl).symm.trans hf) |>.symm;obtain rfl : fn = Tryz.f8 := (Option.some.inj (Tryz.func8.symm.trans hfn)).symm;exact ⟨by kernel_rfl, fun j t ht => by
    rw [Tryz.params8] at ht;have hm := Array.mem_of_getElem? ht;have hall : ((Tryz.f8.params).all fun u => !Tryz.prog.wantsStandIn u) = true := by kernel_rfl
    rw [Tryz.params8] at hall;have := Array.all_eq_true'.1 hall t hm
    show Tryz.prog.wantsStandIn t = false
    simpa using this⟩)
  (by kernel_rfl)
end Go.Proofs.YtjfbeeogiejopaaGreatDoor
