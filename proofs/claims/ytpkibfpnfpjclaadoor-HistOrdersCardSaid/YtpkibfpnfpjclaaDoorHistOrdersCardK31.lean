/- The chapter's example of a history; works. -/
import Derived.Test.YtpkibfpnfpjclaaDoorHistOrdersCardK9
import Derived.Test.YtpkibfpnfpjclaaDoorHistOrdersCardK29
import Derived.Test.YtpkibfpnfpjclaaDoorHistOrdersCardK30
set_option linter.unusedVariables false
set_option linter.unusedSimpArgs false
namespace Go.Proofs.YtpkibfpnfpjclaaDoor
open Go.RowKit
open Go.Lib hiding intOf
attribute [local go_sem ↓] Go.wp_at_zero Go.wp_at_succ

def sampleH : Hst := ⟨[⟨#[115]⟩], [⟨#[120]⟩], [⟨0, 1, [⟨false, 0, 2, 0⟩]⟩, ⟨0, 3, []⟩]⟩
theorem sample_may : mayH sampleH = true := by decide +kernel
theorem sample_ahead : aheadB sampleH 0 1 = true := by decide +kernel
theorem sample_not : aheadB sampleH 1 0 = false := by decide +kernel
theorem sample_inf : infL sampleH = [1] := by decide +kernel
theorem sample_los : (losL sampleH).length = 1 := by decide +kernel
theorem sample_small : HSmall sampleH where
  s := fun x hx => by
    simp [sampleH] at hx
    subst hx
    decide
  k := fun x hx => by
    simp [sampleH] at hx
    subst hx
    decide
  ns := by decide
  nk := by decide
  nl := by decide
  no := fun t ht => by
    simp [sampleH] at ht
    rcases ht with rfl | rfl <;> decide

theorem Blk.rowUp {w : World} {g : Nat} {t : TypeId} {cs : Array Value} (h : Blk w g t cs) : Row w w.heap.size (some ⟨g, 0, none⟩) cs.toList :=
  .inr ⟨g, 0, rfl, h.lt, Nat.le_refl _, fun j u hu => by rw [Nat.zero_add, h.at_ j]; simpa using hu⟩

set_option maxRecDepth 10000 in
set_option maxHeartbeats 2000000 in
theorem sample_any (w : World) :
    Calls Tryd.prog 30 #[] w fun e w' => ∃ A0 A1 A2, (e = .returned (.agg #[.slice A0 1 1, .slice A1 1 1, .slice A2 2 2]) ∧ HAt w' w'.heap.size A0 A1 A2 sampleH) ∧ Only [] w w' := by
  obtain ⟨g, hg⟩ : ∃ g, g = w.heap.size := ⟨_, rfl⟩
  have b0 := ((((Blk.made w 25 #[.slice (some ⟨g + 1, 0, none⟩) 1 1, .slice (some ⟨g + 1 + 1, 0, none⟩) 1 1, .slice (some ⟨g + 1 + 1 + 1 + 1, 0, none⟩) 2 2]).alloc (.cells #[.string ⟨#[115]⟩] 9)).alloc (.cells #[.string ⟨#[120]⟩] 9)).alloc (.cells #[.bool false, .int .i64 0, .int .i64 2, .int .i64 0] 56)).alloc (.cells #[.int .i64 0, .int .i64 1, .slice (some ⟨g + 1 + 1 + 1, 0, none⟩) 1 1, .int .i64 0, .int .i64 3, .slice none 0 0] 45)
  have b1 := (((Blk.made (w.alloc (.cells #[.slice (some ⟨g + 1, 0, none⟩) 1 1, .slice (some ⟨g + 1 + 1, 0, none⟩) 1 1, .slice (some ⟨g + 1 + 1 + 1 + 1, 0, none⟩) 2 2] 25)) 9 #[.string ⟨#[115]⟩]).alloc (.cells #[.string ⟨#[120]⟩] 9)).alloc (.cells #[.bool false, .int .i64 0, .int .i64 2, .int .i64 0] 56)).alloc (.cells #[.int .i64 0, .int .i64 1, .slice (some ⟨g + 1 + 1 + 1, 0, none⟩) 1 1, .int .i64 0, .int .i64 3, .slice none 0 0] 45)
  have b2 := ((Blk.made ((w.alloc (.cells #[.slice (some ⟨g + 1, 0, none⟩) 1 1, .slice (some ⟨g + 1 + 1, 0, none⟩) 1 1, .slice (some ⟨g + 1 + 1 + 1 + 1, 0, none⟩) 2 2] 25)).alloc (.cells #[.string ⟨#[115]⟩] 9)) 9 #[.string ⟨#[120]⟩]).alloc (.cells #[.bool false, .int .i64 0, .int .i64 2, .int .i64 0] 56)).alloc (.cells #[.int .i64 0, .int .i64 1, .slice (some ⟨g + 1 + 1 + 1, 0, none⟩) 1 1, .int .i64 0, .int .i64 3, .slice none 0 0] 45)
  have b3 := (Blk.made (((w.alloc (.cells #[.slice (some ⟨g + 1, 0, none⟩) 1 1, .slice (some ⟨g + 1 + 1, 0, none⟩) 1 1, .slice (some ⟨g + 1 + 1 + 1 + 1, 0, none⟩) 2 2] 25)).alloc (.cells #[.string ⟨#[115]⟩] 9)).alloc (.cells #[.string ⟨#[120]⟩] 9)) 56 #[.bool false, .int .i64 0, .int .i64 2, .int .i64 0]).alloc (.cells #[.int .i64 0, .int .i64 1, .slice (some ⟨g + 1 + 1 + 1, 0, none⟩) 1 1, .int .i64 0, .int .i64 3, .slice none 0 0] 45)
  have b4 := Blk.made ((((w.alloc (.cells #[.slice (some ⟨g + 1, 0, none⟩) 1 1, .slice (some ⟨g + 1 + 1, 0, none⟩) 1 1, .slice (some ⟨g + 1 + 1 + 1 + 1, 0, none⟩) 2 2] 25)).alloc (.cells #[.string ⟨#[115]⟩] 9)).alloc (.cells #[.string ⟨#[120]⟩] 9)).alloc (.cells #[.bool false, .int .i64 0, .int .i64 2, .int .i64 0] 56)) 45 #[.int .i64 0, .int .i64 1, .slice (some ⟨g + 1 + 1 + 1, 0, none⟩) 1 1, .int .i64 0, .int .i64 3, .slice none 0 0]
  have O : Only [] w (((((w.alloc (.cells #[.slice (some ⟨g + 1, 0, none⟩) 1 1, .slice (some ⟨g + 1 + 1, 0, none⟩) 1 1, .slice (some ⟨g + 1 + 1 + 1 + 1, 0, none⟩) 2 2] 25)).alloc (.cells #[.string ⟨#[115]⟩] 9)).alloc (.cells #[.string ⟨#[120]⟩] 9)).alloc (.cells #[.bool false, .int .i64 0, .int .i64 2, .int .i64 0] 56)).alloc (.cells #[.int .i64 0, .int .i64 1, .slice (some ⟨g + 1 + 1 + 1, 0, none⟩) 1 1, .int .i64 0, .int .i64 3, .slice none 0 0] 45)) := (((((Only.refl [] w).alloc _).alloc _).alloc _).alloc _).alloc _
  simp only [World.size_alloc, ← hg] at b0 b1 b2 b3 b4
  have HALL := Lib.hid (And.intro b0 (And.intro b1 (And.intro b2 (And.intro b3 (And.intro b4 O)))))
  clear b0 b1 b2 b3 b4 O
  go_enter Tryd.func30, Tryd.ntmps30
  go_wp2
  rw [← hg]
  obtain ⟨b0, b1, b2, b3, b4, O⟩ := HALL.out
  generalize (((((w.alloc (.cells #[.slice (some ⟨g + 1, 0, none⟩) 1 1, .slice (some ⟨g + 1 + 1, 0, none⟩) 1 1, .slice (some ⟨g + 1 + 1 + 1 + 1, 0, none⟩) 2 2] 25)).alloc (.cells #[.string ⟨#[115]⟩] 9)).alloc (.cells #[.string ⟨#[120]⟩] 9)).alloc (.cells #[.bool false, .int .i64 0, .int .i64 2, .int .i64 0] 56)).alloc (.cells #[.int .i64 0, .int .i64 1, .slice (some ⟨g + 1 + 1 + 1, 0, none⟩) 1 1, .int .i64 0, .int .i64 3, .slice none 0 0] 45)) = W at *
  refine bodyPost_ret (results_row1 Tryd.results30 _ _ g 25 #[.slice (some ⟨g + 1, 0, none⟩) 1 1, .slice (some ⟨g + 1 + 1, 0, none⟩) 1 1, .slice (some ⟨g + 1 + 1 + 1 + 1, 0, none⟩) 2 2] _ rfl b0 Tryd.underlying25 rfl (by kernel_rfl)) rfl ?_
  refine ⟨_, _, _, ⟨rfl, ⟨b1.rowUp, b2.rowUp, [⟨⟨0, 1, [⟨false, 0, 2, 0⟩]⟩, some ⟨g + 1 + 1 + 1, 0, none⟩, 1⟩, ⟨⟨0, 3, []⟩, none, 0⟩], rfl, b4.rowUp, fun x hx => ?_⟩⟩, O⟩
  simp at hx
  rcases hx with rfl | rfl
  · exact ⟨b3.rowUp, Nat.le_refl _, by unfold maxLen; dsimp only; omega⟩
  · exact ⟨.inl rfl, Nat.le_refl _, by unfold maxLen; dsimp only; omega⟩

theorem sample_in {w : World} {A0 A1 A2 : Option Addr} (h : HAt w w.heap.size A0 A1 A2 sampleH) (hT : UTabs w) : HIn w w.heap.size A0 A1 A2 1 1 2 sampleH := ⟨h, rfl, rfl, rfl, sample_small, hT⟩

set_option maxRecDepth 10000 in
set_option maxHeartbeats 2000000 in
theorem works11_any (w : World) (hT : UTabs w) :
    Calls Tryd.prog 13 #[] w fun e w' => e = .returned (.bool true) ∧ Only [] w w' := by
  have HT := Lib.hid hT
  have HS := Lib.hid (fun w' => sample_any w')
  have H1 := Lib.hid (fun A0 A1 A2 w' (h : HIn w' w'.heap.size A0 A1 A2 1 1 2 sampleH) => hmay_any A0 A1 A2 1 1 2 1 1 2 w'.heap.size sampleH w' h)
  have H2 := Lib.hid (fun A0 A1 A2 w' (h : HIn w' w'.heap.size A0 A1 A2 1 1 2 sampleH) => hahead_any A0 A1 A2 1 1 2 1 1 2 w'.heap.size sampleH 0 1 w' h)
  have H3 := Lib.hid (fun A0 A1 A2 w' (h : HIn w' w'.heap.size A0 A1 A2 1 1 2 sampleH) => hahead_any A0 A1 A2 1 1 2 1 1 2 w'.heap.size sampleH 1 0 w' h)
  have H4 := Lib.hid (fun A0 A1 A2 w' (h : HIn w' w'.heap.size A0 A1 A2 1 1 2 sampleH) => hinfos_any A0 A1 A2 1 1 2 1 1 2 w'.heap.size sampleH w' h)
  have H5 := Lib.hid (fun A0 A1 A2 w' (h : HIn w' w'.heap.size A0 A1 A2 1 1 2 sampleH) => hlost_any A0 A1 A2 1 1 2 1 1 2 w'.heap.size sampleH w' h)
  rw [mayH_err sample_may] at H1
  rw [sample_ahead] at H2
  rw [sample_not] at H3
  rw [sample_inf] at H4
  rw [sample_los] at H5
  unfold hval at H1 H2 H3 H4 H5
  clear hT
  go_enter Tryd.func13, Tryd.ntmps13
  go_wp2_with fail
  refine (HS.out _).mono ?_
  rintro e w1 ⟨A0, A1, A2, ⟨rfl, hA⟩, O1⟩
  have HO1 := Lib.hid O1
  have F := Lib.hid (H1.out A0 A1 A2 w1 (sample_in hA (HT.out.only O1)))
  clear hA O1 H1
  go_wp2_with fail
  refine (F.out).mono ?_
  rintro e w2 ⟨rfl, O2⟩
  have HO2 := Lib.hid (HO1.out.trans O2)
  clear O2 F HO1
  go_wp2_with fail
  refine (HS.out _).mono ?_
  rintro e w3 ⟨Z0, Z1, Z2, ⟨rfl, hA⟩, O3⟩
  have HO3 := Lib.hid (HO2.out.trans O3)
  have F := Lib.hid (H2.out Z0 Z1 Z2 w3 (sample_in hA (HT.out.only HO3.out)))
  clear hA O3 H2
  go_wp2_with fail
  refine (F.out).mono ?_
  rintro e w4 ⟨rfl, O4⟩
  have HO4 := Lib.hid (HO3.out.trans O4)
  clear O4 F HO2 HO3
  go_wp2_with fail
  refine (HS.out _).mono ?_
  rintro e w5 ⟨B0, B1, B2, ⟨rfl, hA⟩, O5⟩
  have HO5 := Lib.hid (HO4.out.trans O5)
  have F := Lib.hid (H3.out B0 B1 B2 w5 (sample_in hA (HT.out.only HO5.out)))
  clear hA O5 H3
  go_wp2_with fail
  refine (F.out).mono ?_
  rintro e w6 ⟨rfl, O6⟩
  have HO6 := Lib.hid (HO5.out.trans O6)
  clear O6 F HO4 HO5
  go_wp2_with fail
  refine (HS.out _).mono ?_
  rintro e w7 ⟨C0, C1, C2, ⟨rfl, hA⟩, O7⟩
  have HO7 := Lib.hid (HO6.out.trans O7)
  have F := Lib.hid (H4.out C0 C1 C2 w7 (sample_in hA (HT.out.only HO7.out)))
  clear hA O7 H4
  go_wp2_with fail
  refine (F.out).mono ?_
  rintro e w8 ⟨D, d, ⟨rfl, hR⟩, O8⟩
  have HO8 := Lib.hid (HO7.out.trans O8)
  have OA : Only [] w8 (w8.alloc (.cells #[.int .i64 1] 3)) := (Only.refl [] w8).alloc _
  have HSI := Lib.hid (sameInts_any D (some ⟨w8.heap.size, 0, none⟩) 1 1 d 1 [1] [1] (w8.alloc (.cells #[.int .i64 1] 3)) w8.heap.size _ (hR.only OA (fun _ h => by cases h)) (row_lit w8 3 #[.int .i64 1]) rfl rfl (by omega) (by omega))
  have HO9 := Lib.hid (HO8.out.trans OA)
  clear hR O8 F HO6 HO7 OA
  go_wp2_with fail
  refine (HSI.out).mono ?_
  rintro e w9 ⟨rfl, kd, rfl⟩
  have HOA := Lib.hid (HO9.out.drewN kd)
  generalize ((w8.alloc (.cells #[.int .i64 1] 3)).drewN kd) = w9 at *
  clear HSI HO9 HO8
  go_wp2_with fail
  refine (HS.out _).mono ?_
  rintro e w10 ⟨E0, E1, E2, ⟨rfl, hA⟩, O10⟩
  have HO10 := Lib.hid (HOA.out.trans O10)
  have F := Lib.hid (H5.out E0 E1 E2 w10 (sample_in hA (HT.out.only HO10.out)))
  clear hA O10 H5
  go_wp2_with fail
  refine (F.out).mono ?_
  rintro e w11 ⟨D', d', ⟨rfl, hR⟩, O11⟩
  have HO11 := Lib.hid (HO10.out.trans O11)
  clear O11 hR F
  go_wp2
  go_ret
  exact ⟨rfl, HO11.out⟩

end Go.Proofs.YtpkibfpnfpjclaaDoor
