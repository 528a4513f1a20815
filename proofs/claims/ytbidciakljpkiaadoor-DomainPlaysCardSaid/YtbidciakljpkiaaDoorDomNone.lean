/- DomainNone: a domain that is none has nothing, and takes nothing; and the chapter's example. -/
import Derived.Test.YtbidciakljpkiaaDoorDomE
set_option linter.unusedVariables false
set_option linter.unusedSimpArgs false
namespace Go.Proofs.YtbidciakljpkiaaDoor
open Go.RowKit
attribute [local go_sem ↓] Go.wp_at_zero Go.wp_at_succ

theorem row_lit' (w : World) (t : TypeId) (cs : Array Value) : Row (w.alloc (.cells cs t)) (w.alloc (.cells cs t)).heap.size (some ⟨w.heap.size, 0, none⟩) cs.toList := by
  rw [World.size_alloc]
  exact row_lit w t cs

set_option maxHeartbeats 4000000 in
theorem works32_any (w : World) (hT : Tab w) (h00 : 0 < w.heap.size) :
    Calls Tryd.prog 9 #[] w fun e w' => e = .returned (.bool true) ∧ Only [] w w' := by
  have HT := Lib.hid hT
  clear hT
  go_enter Tryd.func9, Tryd.ntmps9
  go_wp2_with fail
  have HO0 : Hid (Only [] w (w.alloc (.cells #[.int .i64 2] 3))) := Lib.hid ((Only.refl [] w).alloc _)
  refine (dnew_any _ 1 1 [2] _ (row_lit' w 3 #[.int .i64 2]) rfl (by omega) (by unfold maxLen; omega)).mono ?_
  generalize w.alloc (.cells #[.int .i64 2] 3) = w0 at *
  rintro e w1 ⟨hO1, hcase⟩
  rcases hcase with ⟨-, -, rfl, q, B, fp, hD, hB, hf⟩ | ⟨hbad, -⟩
  · have hs0 := HO0.out.size
    have hs1 := hO1.size
    have O1 : Hid (Only [] w w1) := Lib.hid (HO0.out.trans hO1)
    obtain ⟨p, hp⟩ : ∃ p, p = w0.heap.size := ⟨_, rfl⟩
    rw [← hp] at hD
    simp only [← hp]
    have hDp : Hid (Calls Tryd.prog 12 #[.pointer (some ⟨p, 0, none⟩), .int .i64 0, .int .i64 0] w1 fun e w' => e = .returned (.int .i64 0) ∧ Dom w' p q B ([2].map Int.toNat) [[false, true]] [] fp ∧ Only fp w1 w') :=
      Lib.hid (ddrop_some hD (v := 0) (k := 0) (l := [true, true]) rfl (by decide) (by decide))
    have HFN : Hid (∀ b ∈ fp, w.heap.size ≤ b) := Lib.hid (fun b hb => by have := (hf b hb).1; omega)
    clear hp hD hf hO1 HO0
    go_wp2_with fail
    refine (hDp.out).mono ?_
    rintro e w2 ⟨rfl, hD2, hO2⟩
    have hs2 := hO2.size
    have O2 : Hid (Only [] w w2) := Lib.hid (O1.out.step hO2 (fun i hi hl => by have := HFN.out i hi; omega))
    have hFx : Hid (Calls Tryd.prog 21 #[.pointer (some ⟨p, 0, none⟩), .int .i64 0] w2 fun e w' => e = .returned (.tuple #[.int .i64 1, .bool true]) ∧ Only [] w2 w') :=
      Lib.hid (dfixed_in hD2 (v := 0) (l := [false, true]) rfl (HT.out.only h00 O2.out (by simp)) (by omega))
    have HD2 := Lib.hid hD2
    clear hO2 hD2 hDp
    go_wp2_with fail
    refine (hFx.out).mono ?_
    rintro e w3 ⟨rfl, hO3⟩
    have hs3 := hO3.size
    have O3 : Hid (Only [] w w3) := Lib.hid (O2.out.trans hO3)
    have hOp : Hid (Calls Tryd.prog 24 #[.pointer (some ⟨p, 0, none⟩)] w3 fun e w' => ∃ V, (e = .returned V ∧ w'.ownsRow w3.heap.size 3 1 V 0 []) ∧ Only [] w3 w') :=
      Lib.hid (dopen_any (HD2.out.keep hO3) (HT.out.only h00 O3.out (by simp)) (by omega))
    clear hO3 hFx
    go_wp2_with fail
    refine (hOp.out).mono ?_
    rintro e w4 ⟨V, ⟨rfl, hown⟩, hO4⟩
    obtain ⟨A, c, rfl, -, -, -, -⟩ := own_row hown
    have O4 : Hid (Only [] w w4) := Lib.hid (O3.out.trans hO4)
    clear hown hO4 hOp
    go_wp2
    go_ret
    exact ⟨rfl, O4.out⟩
  · exfalso
    rcases hbad with h | ⟨z, hz, hn⟩
    · omega
    · simp at hz
      subst hz
      exact hn ⟨by omega, by omega⟩

set_option maxRecDepth 100000 in
set_option maxHeartbeats 8000000 in
theorem domainNone_walk (v k : Int) (w : World) (hT : Tab w) (h00 : 0 < w.heap.size) :
    Calls Tryd.prog 5 #[.int .i64 v, .int .i64 k] w fun e w' => e = .returned (.bool true) ∧ Only [] w w' := by
  have HB : Hid (Blk (w.alloc (.cells #[.slice none 0 0, .pointer none] 47)) w.heap.size 47 #[.slice none 0 0, .pointer none]) := Lib.hid (Blk.made _ _ _)
  have HO : Hid (Only [] w (w.alloc (.cells #[.slice none 0 0, .pointer none] 47))) := Lib.hid ((Only.refl [] w).alloc _)
  have HIN := Lib.hid (dis_nil (w.alloc (.cells #[.slice none 0 0, .pointer none] 47)))
  have HIE := Lib.hid (dis_empty w.heap.size (w.alloc (.cells #[.slice none 0 0, .pointer none] 47)) (HB.out.at_ 1))
  have HF0 := Lib.hid (dfixed_no HIN.out v)
  have HF1 := Lib.hid (dfixed_no HIE.out v)
  have HC0 := Lib.hid (ddrop_no HIN.out v k)
  have HC1 := Lib.hid (ddrop_no HIE.out v k)
  have HC2 := Lib.hid (donly_no HIN.out v k)
  have HC3 := Lib.hid (donly_no HIE.out v k)
  have HC4 := Lib.hid (dbegin_no HIN.out)
  have HC5 := Lib.hid (dbegin_no HIE.out)
  have HC6 := Lib.hid (dundo_no HIN.out)
  have HC7 := Lib.hid (dundo_no HIE.out)
  have HC8 := Lib.hid (dleft_no HIN.out v)
  have HC9 := Lib.hid (dleft_no HIE.out v)
  have HC10 := Lib.hid (dopen_no HIN.out)
  have HC11 := Lib.hid (dopen_no HIE.out)
  have HW := Lib.hid (works32_any (w.alloc (.cells #[.slice none 0 0, .pointer none] 47)) (hT.only h00 HO.out (by simp)) (by have := HO.out.size; omega))
  clear hT
  go_enter Tryd.func5, Tryd.ntmps5
  go_wp2_with fail
  refine (HF0.out).mono ?_
  rintro e w' ⟨rfl, rfl⟩
  go_wp2_with fail
  refine (HF1.out).mono ?_
  rintro e w' ⟨rfl, rfl⟩
  go_wp2_with fail
  refine (HC0.out).mono ?_
  rintro e w' ⟨rfl, rfl⟩
  go_wp2_with fail
  refine (HC1.out).mono ?_
  rintro e w' ⟨rfl, rfl⟩
  go_wp2_with fail
  refine (HC2.out).mono ?_
  rintro e w' ⟨rfl, rfl⟩
  go_wp2_with fail
  refine (HC3.out).mono ?_
  rintro e w' ⟨rfl, rfl⟩
  go_wp2_with fail
  refine (HC4.out).mono ?_
  rintro e w' ⟨rfl, rfl⟩
  go_wp2_with fail
  refine (HC5.out).mono ?_
  rintro e w' ⟨rfl, rfl⟩
  go_wp2_with fail
  refine (HC6.out).mono ?_
  rintro e w' ⟨rfl, rfl⟩
  go_wp2_with fail
  refine (HC7.out).mono ?_
  rintro e w' ⟨rfl, rfl⟩
  go_wp2_with fail
  refine (HC8.out).mono ?_
  rintro e w' ⟨rfl, rfl⟩
  go_wp2_with fail
  refine (HC9.out).mono ?_
  rintro e w' ⟨rfl, rfl⟩
  go_wp2_with fail
  refine (HC10.out).mono ?_
  rintro e w' ⟨rfl, rfl⟩
  go_wp2_with fail
  refine (HC11.out).mono ?_
  rintro e w' ⟨rfl, rfl⟩
  go_wp2_with fail
  refine (HW.out).mono ?_
  rintro e w' ⟨rfl, hO⟩
  go_wp2
  go_ret
  exact ⟨rfl, HO.out.trans hO⟩

end Go.Proofs.YtbidciakljpkiaaDoor
