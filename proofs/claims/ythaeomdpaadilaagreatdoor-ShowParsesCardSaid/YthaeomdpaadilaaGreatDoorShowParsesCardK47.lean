/- Contracts of the package show: Parse. Contracts of the package show: Print. The document's Parse of histories. The chapter's example of layer 12; works. Ops compared in one step. Whether two lists of texts, or of ops, are the same: the document's Texts and SameOps. Whether two histories are the same. The document's ops of a transaction: may they be, and which keys they have. The document's May. -/
import Derived.Test.YthaeomdpaadilaaGreatDoorShowParsesCardK36
import Derived.Test.YthaeomdpaadilaaGreatDoorShowParsesCardK32
import Derived.Test.YthaeomdpaadilaaGreatDoorShowParsesCardK45
import Derived.Test.YthaeomdpaadilaaGreatDoorShowParsesCardK46
import Derived.Test.YthaeomdpaadilaaGreatDoorShowParsesCardK33
import Derived.Test.YthaeomdpaadilaaGreatDoorShowParsesCardK42
import Derived.Test.YthaeomdpaadilaaGreatDoorShowParsesCardK2
import Derived.Laws.StructEq
import Derived.Test.YthaeomdpaadilaaGreatDoorShowParsesCardK18
import Derived.Deep.QuietTactic
import Derived.BigQuiet
import Derived.Test.YthaeomdpaadilaaGreatDoorShowParsesCardK44
import Derived.Test.YthaeomdpaadilaaGreatDoorShowParsesCardK25
import Derived.Test.YthaeomdpaadilaaGreatDoorShowParsesCardK31
import Derived.Deep.OwnRows
set_option linter.unusedVariables false
set_option linter.unusedSimpArgs false
namespace Go.Proofs.YthaeomdpaadilaaGreatDoor
open Go.RowKit
open Go.Lib hiding intOf
attribute [local go_sem ↓] Go.wp_at_zero Go.wp_at_succ
/-- What a text is read as: the history, the line, the error. -/
def showR (s : ByteArray) : Hst × Int × Int :=
 if (logParse s).2.2 = 0 then (pairH (logParse s).1, pairL (logParse s).1, pairE (logParse s).1) else (⟨[], [], []⟩, (logParse s).2.1, (logParse s).2.2)
set_option maxRecDepth 10000 in
set_option maxHeartbeats 4000000 in
theorem sparse_any (s : ByteArray) (w : World) (hs : s.size ≤ 65536) (hrow : ∀ x ∈ linesOf (by_ s), x.length ≤ 65535) (hln : (logParse s).1.length ≤ 1000) (hz : ∀ x ∈ (logParse s).1, x.s.size ≤ 65537 ∧ x.y.size ≤ 65537) (hT : UTabs w) (hM : MLen w) (hV : Verbs w) :
  Calls Tryz.prog 13 #[.string s] w fun e w' => ∃ B0 B1 B2 d0 d1 d2, (e = .returned (.tuple #[.agg #[.slice B0 (showR s).1.ss.length d0, .slice B1 (showR s).1.ks.length d1, .slice B2 (showR s).1.l.length d2], .int .i64 (showR s).2.1, .int .i64 (showR s).2.2]) ∧ HAt w' w'.heap.size B0 B1 B2 (showR s).1) ∧ Only [] w w' := by
 have HR0 := Lib.hid (Blk.made w 25 #[.slice none 0 0, .slice none 0 0, .slice none 0 0])
 have HO1 := Lib.hid ((Only.refl [] w).alloc (.cells #[.slice none 0 0, .slice none 0 0, .slice none 0 0] 25))
 have HLP := Lib.hid (logparse_any s _ hs hrow (hT.only HO1.out) (hM.only HO1.out) (hV.only HO1.out))
 have HPH := Lib.hid (fun (A : Option Addr) (n c : Nat) w' (O : Only [] w w') (hn : (logParse s).1.length = n) hA => phist_any A n c (logParse s).1 w' hn (by omega) hA hz (hT.only O) (hV.only O))
 clear hs hrow hT hM hV hz
 unfold showR
 generalize logParse s = r at *
 obtain ⟨l, at_, er⟩ := r
 dsimp only at HLP HPH hln ⊢
 have HN := Lib.hid hln
 clear hln
 by_cases he : er = 0
 ·subst he
  rw [if_pos rfl]
  dsimp only
  revert HPH
  generalize pairH l = ph
  generalize pairE l = pe
  generalize pairL l = pl
  intro HPH
  go_enter Tryz.func13, Tryz.ntmps13
  go_wp2_with fail
  generalize (w.alloc (.cells #[.slice none 0 0, .slice none 0 0, .slice none 0 0] 25)) = w1 at *
  generalize hgr : w.heap.size = gr at *
  refine (HLP.out).mono ?_
  rintro e w2 ⟨O2, V, rfl, hown⟩
  have HO2 := Lib.hid (HO1.out.trans O2)
  have HR2 := Lib.hid (O2.blk HR0.out (by simp))
  obtain ⟨A, c, rfl, -, -, -, hrow⟩ := own_row hown
  have HP := Lib.hid (HPH.out A _ c _ HO2.out rfl hrow)
  clear O2 hown hrow HPH HLP HR0
  generalize l.length = n at *
  go_wp2_with fail
  refine (HP.out).mono ?_
  rintro e w3 ⟨B0, B1, B2, d0, d1, d2, ⟨rfl, hA3⟩, O3⟩
  have HR3 := Lib.hid (O3.blk HR2.out (by simp))
  have HA3 := Lib.hid hA3
  have HO3 := Lib.hid (HO2.out.trans O3)
  clear O3 HP HO2 HR2 hA3
  go_wp2_with (refine wpList_store_blk rfl 25 (.tmp 2) (.tmp 21) rfl gr 25 _ #[.slice B0 ph.ss.length d0, .slice B1 ph.ks.length d1, .slice B2 ph.l.length d2] rfl rfl HR3.out rfl (by kernel_rfl) (by kernel_rfl) ?_; intro w9 b9 o9; have HB9 := Lib.hid b9; have HN9 := Lib.hid o9; clear b9 o9)
  refine bodyPost_ret (results_row3 Tryz.results13 _ _ gr 25 #[.slice B0 ph.ss.length d0, .slice B1 ph.ks.length d1, .slice B2 ph.l.length d2] _ rfl HB9.out Tryz.underlying25 rfl (by kernel_rfl)) rfl ?_
  exact ⟨B0, B1, B2, d0, d1, d2, ⟨rfl, hat_past HA3.out HR3.out HN9.out⟩, HO3.out.step HN9.out (fun i hi hl => by simp at hi; omega)⟩
 ·have hne : (er != 0) = true := by simpa using he
  rw [if_neg he]
  dsimp only
  clear he
  go_enter Tryz.func13, Tryz.ntmps13
  go_wp2_with fail
  generalize (w.alloc (.cells #[.slice none 0 0, .slice none 0 0, .slice none 0 0] 25)) = w1 at *
  generalize hgr : w.heap.size = gr at *
  refine (HLP.out).mono ?_
  rintro e w2 ⟨O2, V, rfl, -⟩
  have HO2 := Lib.hid (HO1.out.trans O2)
  have HR2 := Lib.hid (O2.blk HR0.out (by simp))
  clear O2 HPH HLP HR0
  go_wp2_with (refine wpList_store_blk rfl 25 (.tmp 2) (.tmp 16) rfl gr 25 _ #[.slice none 0 0, .slice none 0 0, .slice none 0 0] rfl rfl HR2.out rfl (by kernel_rfl) (by kernel_rfl) ?_; intro w9 b9 o9; have HB9 := Lib.hid b9; have HN9 := Lib.hid o9; clear b9 o9)
  refine bodyPost_ret (results_row3 Tryz.results13 _ _ gr 25 #[.slice none 0 0, .slice none 0 0, .slice none 0 0] _ rfl HB9.out Tryz.underlying25 rfl (by kernel_rfl)) rfl ?_
  exact ⟨none, none, none, 0, 0, 0, ⟨rfl, ⟨.inl rfl, .inl rfl, LRow.nil⟩⟩, HO2.out.step HN9.out (fun i hi hl => by simp at hi; omega)⟩
end Go.Proofs.YthaeomdpaadilaaGreatDoor

set_option linter.unusedVariables false
set_option linter.unusedSimpArgs false
namespace Go.Proofs.YthaeomdpaadilaaGreatDoor
open Go.RowKit
open Go.Lib hiding intOf
attribute [local go_sem ↓] Go.wp_at_zero Go.wp_at_succ
/-- What a history is printed as, with the error. -/
def showP (h : Hst) : ByteArray × Int := if errH h = 0 then logPrint (evsH h) else (⟨#[]⟩, errH h)
set_option maxRecDepth 10000 in
set_option maxHeartbeats 4000000 in
theorem sprint_any (A0 A1 A2 : Option Addr) (n0 n1 n2 c0 c1 c2 B : Nat) (h : Hst) (w : World) (hg : HIn w B A0 A1 A2 n0 n1 n2 h) (hb : errH h = 0 → ∀ x ∈ evsH h, EvB x) (hV : Verbs w) :
  Calls Tryz.prog 9 #[hval A0 A1 A2 n0 n1 n2 c0 c1 c2] w fun e w' => e = .returned (.tuple #[.string (showP h).1, .int .i64 (showP h).2]) ∧ Only [] w w' := by
 have HEV := Lib.hid (fun w' (O : Only [] w w') => sevents_any A0 A1 A2 n0 n1 n2 c0 c1 c2 B h w' (hg.same O))
 have HLN : Hid (errH h = 0 → (evsH h).length ≤ 1000) := Lib.hid (fun he => by
  obtain ⟨h1, h2⟩ := may_len he
  have := fold_len h.ss h.ks h.l h2 []
  simp at this
  show (h.l.foldl (addT h.ss h.ks) []).length ≤ 1000
  omega)
 have HPR := Lib.hid (fun (A : Option Addr) (n c : Nat) (he : errH h = 0) w' (hn : (evsH h).length = n) (O : Only [] w w') hA => logprint_any A n c w'.heap.size (evsH h) w' hn (by have := HLN.out he; omega) (hb he) hA (hg.u.only O) (hV.only O))
 unfold hval at HEV ⊢
 unfold showP
 clear hg hb hV
 have HO0 := Lib.hid ((Only.refl [] w).alloc (.cells #[.slice A0 n0 c0, .slice A1 n1 c1, .slice A2 n2 c2] 25))
 have HE1 := Lib.hid (HEV.out _ HO0.out)
 clear HEV
 by_cases he : errH h = 0
 ·rw [if_pos he]
  have HPP := Lib.hid (fun A n c => HPR.out A n c he)
  rw [if_pos he, he] at HE1
  clear he HPR HLN
  generalize logPrint (evsH h) = r at *
  go_enter Tryz.func9, Tryz.ntmps9
  go_wp2_with fail
  refine (HE1.out).mono ?_
  rintro e w1 ⟨V, n, rfl, O1, hn, hown⟩
  have HO1 := Lib.hid (HO0.out.trans O1)
  subst hn
  obtain ⟨A, c, rfl, -, -, -, hrow⟩ := own_row hown
  have HP := Lib.hid (HPP.out A _ c _ rfl HO1.out hrow)
  clear hown hrow O1 HE1 HO0 HPP
  generalize (evsH h).length = n at *
  go_wp2_with fail
  refine (HP.out).mono ?_
  rintro e w2 ⟨rfl, O2⟩
  have HO2 := Lib.hid (HO1.out.trans O2)
  clear O2 HP HO1
  go_wp2
  go_ret2
  exact ⟨rfl, HO2.out⟩
 ·have hne : (errH h != 0) = true := by simpa using he
  rw [if_neg he]
  rw [if_neg he] at HE1
  generalize errH h = er at *
  clear he HPR HLN
  go_enter Tryz.func9, Tryz.ntmps9
  go_wp2_with fail
  refine (HE1.out).mono ?_
  rintro e w1 ⟨V, n, rfl, O1, hn, hown⟩
  have HO1 := Lib.hid (HO0.out.trans O1)
  subst hn
  obtain ⟨A, c, rfl, -, -, -, hrow⟩ := own_row hown
  clear hown hrow O1 HE1 HO0
  go_wp2
  go_ret2
  exact ⟨rfl, HO1.out⟩
end Go.Proofs.YthaeomdpaadilaaGreatDoor

set_option linter.unusedVariables false
set_option linter.unusedSimpArgs false
namespace Go.Proofs.YthaeomdpaadilaaGreatDoor
open Go.RowKit
open Go.Lib hiding intOf
attribute [local go_sem ↓] Go.wp_at_zero Go.wp_at_succ
theorem show_small (s : ByteArray) : HSmall (showR s).1 := by
 unfold showR
 split
 ·exact pair_small (log_sizes s)
 ·exact ⟨by simp, by simp, by simp, by simp, by simp, by simp⟩
set_option maxRecDepth 10000 in
set_option maxHeartbeats 4000000 in
theorem rsparse_any (s : ByteArray) (w : World) (hs : s.size ≤ 65536) (hrow : ∀ x ∈ linesOf (by_ s), x.length ≤ 65535) :
  Calls Tryz.prog 14 #[.string s] w fun e w' => ∃ B0 B1 B2 d0 d1 d2, (e = .returned (.tuple #[.agg #[.slice B0 (showR s).1.ss.length d0, .slice B1 (showR s).1.ks.length d1, .slice B2 (showR s).1.l.length d2], .int .i64 (showR s).2.1, .int .i64 (showR s).2.2]) ∧ HAt w' w'.heap.size B0 B1 B2 (showR s).1) ∧ Only [] w w' := by
 have HR0 := Lib.hid (Blk.made w 25 #[.slice none 0 0, .slice none 0 0, .slice none 0 0])
 have HO1 := Lib.hid ((Only.refl [] w).alloc (.cells #[.slice none 0 0, .slice none 0 0, .slice none 0 0] 25))
 have HLP := Lib.hid (rlogparse_any s (w.alloc (.cells #[.slice none 0 0, .slice none 0 0, .slice none 0 0] 25)) hs hrow)
 have HLN := Lib.hid (log_len s)
 have HPH := Lib.hid (fun (A : Option Addr) (n c : Nat) w' (hn : (logParse s).1.length = n) hA => rhist_any A n c (logParse s).1 w' hn (by have := HLN.out; omega) hA (log_sizes s))
 unfold HistAll at HPH
 clear hs hrow
 unfold showR
 generalize logParse s = r at *
 obtain ⟨l, at_, er⟩ := r
 dsimp only at HLP HPH ⊢
 clear HLN
 by_cases he : er = 0
 ·subst he
  rw [if_pos rfl]
  dsimp only
  revert HPH
  generalize pairH l = ph
  generalize pairE l = pe
  generalize pairL l = pl
  intro HPH
  go_enter Tryz.func14, Tryz.ntmps14
  go_wp2_with fail
  generalize (w.alloc (.cells #[.slice none 0 0, .slice none 0 0, .slice none 0 0] 25)) = w1 at *
  generalize hgr : w.heap.size = gr at *
  refine (HLP.out).mono ?_
  rintro e w2 ⟨O2, A, c, rfl, hrow⟩
  have HO2 := Lib.hid (HO1.out.trans O2)
  have HR2 := Lib.hid (O2.blk HR0.out (by simp))
  have HP := Lib.hid (HPH.out A _ c _ rfl hrow)
  clear O2 hrow HPH HLP HR0
  generalize l.length = n at *
  go_wp2_with fail
  refine (HP.out).mono ?_
  rintro e w3 ⟨B0, B1, B2, d0, d1, d2, ⟨rfl, hA3⟩, O3⟩
  have HR3 := Lib.hid (O3.blk HR2.out (by simp))
  have HA3 := Lib.hid hA3
  have HO3 := Lib.hid (HO2.out.trans O3)
  clear O3 HP HO2 HR2 hA3
  go_wp2_with (refine wpList_store_blk rfl 25 (.tmp 2) (.tmp 21) rfl gr 25 _ #[.slice B0 ph.ss.length d0, .slice B1 ph.ks.length d1, .slice B2 ph.l.length d2] rfl rfl HR3.out rfl (by kernel_rfl) (by kernel_rfl) ?_; intro w9 b9 o9; have HB9 := Lib.hid b9; have HN9 := Lib.hid o9; clear b9 o9)
  refine bodyPost_ret (results_row3 Tryz.results14 _ _ gr 25 #[.slice B0 ph.ss.length d0, .slice B1 ph.ks.length d1, .slice B2 ph.l.length d2] _ rfl HB9.out Tryz.underlying25 rfl (by kernel_rfl)) rfl ?_
  exact ⟨B0, B1, B2, d0, d1, d2, ⟨rfl, hat_past HA3.out HR3.out HN9.out⟩, HO3.out.step HN9.out (fun i hi hl => by simp at hi; omega)⟩
 ·have hne : (er != 0) = true := by simpa using he
  rw [if_neg he]
  dsimp only
  clear he
  go_enter Tryz.func14, Tryz.ntmps14
  go_wp2_with fail
  generalize (w.alloc (.cells #[.slice none 0 0, .slice none 0 0, .slice none 0 0] 25)) = w1 at *
  generalize hgr : w.heap.size = gr at *
  refine (HLP.out).mono ?_
  rintro e w2 ⟨O2, A, c, rfl, -⟩
  have HO2 := Lib.hid (HO1.out.trans O2)
  have HR2 := Lib.hid (O2.blk HR0.out (by simp))
  clear O2 HPH HLP HR0
  go_wp2_with (refine wpList_store_blk rfl 25 (.tmp 2) (.tmp 16) rfl gr 25 _ #[.slice none 0 0, .slice none 0 0, .slice none 0 0] rfl rfl HR2.out rfl (by kernel_rfl) (by kernel_rfl) ?_; intro w9 b9 o9; have HB9 := Lib.hid b9; have HN9 := Lib.hid o9; clear b9 o9)
  refine bodyPost_ret (results_row3 Tryz.results14 _ _ gr 25 #[.slice none 0 0, .slice none 0 0, .slice none 0 0] _ rfl HB9.out Tryz.underlying25 rfl (by kernel_rfl)) rfl ?_
  exact ⟨none, none, none, 0, 0, 0, ⟨rfl, ⟨.inl rfl, .inl rfl, LRow.nil⟩⟩, HO2.out.step HN9.out (fun i hi hl => by simp at hi; omega)⟩
end Go.Proofs.YthaeomdpaadilaaGreatDoor

set_option linter.unusedVariables false
set_option linter.unusedSimpArgs false
namespace Go.Proofs.YthaeomdpaadilaaGreatDoor
open Go.RowKit
open Go.Lib hiding intOf
attribute [local go_sem ↓] Go.wp_at_zero Go.wp_at_succ
def ex12 : ByteArray := ⟨#[98, 101, 103, 105, 110, 32, 115, 10, 98, 101, 103, 105, 110, 32, 116, 10, 111, 107, 32, 116, 10, 111, 107, 32, 115]⟩
def out12 : ByteArray := ⟨#[98, 101, 103, 105, 110, 32, 115, 10, 111, 107, 32, 115, 10, 98, 101, 103, 105, 110, 32, 116, 10, 111, 107, 32, 116, 10]⟩
def hist12 : Hst := ⟨[⟨#[115]⟩, ⟨#[116]⟩], [], [⟨0, 1, []⟩, ⟨1, 1, []⟩]⟩
def evs12 : List Ev6 := [⟨1, ⟨#[115]⟩, ⟨#[]⟩, 0, 0, 1⟩, ⟨1, ⟨#[116]⟩, ⟨#[]⟩, 0, 0, 2⟩, ⟨4, ⟨#[116]⟩, ⟨#[]⟩, 0, 0, 3⟩, ⟨4, ⟨#[115]⟩, ⟨#[]⟩, 0, 0, 4⟩]
theorem ex12_log : logParse ex12 = (evs12, 0, 0) := by kernel_rfl
theorem ex12_rows : (linesOf (by_ ex12)).all (fun x => decide (x.length ≤ 65535)) = true := by kernel_rfl
theorem ex12_h : pairH evs12 = hist12 := by kernel_rfl
theorem ex12_e : pairE evs12 = 0 := by kernel_rfl
theorem ex12_l : pairL evs12 = 0 := by kernel_rfl
theorem ex12_show : showR ex12 = (hist12, 0, 0) := by
 unfold showR
 rw [ex12_log]
 dsimp only
 rw [if_pos rfl, ex12_h, ex12_e, ex12_l]
theorem ex12_ev : evsH hist12 = [⟨1, ⟨#[115]⟩, ⟨#[]⟩, 0, 0, 1⟩, ⟨4, ⟨#[115]⟩, ⟨#[]⟩, 0, 0, 2⟩, ⟨1, ⟨#[116]⟩, ⟨#[]⟩, 0, 0, 3⟩, ⟨4, ⟨#[116]⟩, ⟨#[]⟩, 0, 0, 4⟩] := by kernel_rfl
theorem ex12_print : showP hist12 = (out12, 0) := by kernel_rfl
theorem ex12_small : HSmall hist12 where
 s := fun x hx => by
  simp [hist12] at hx
  rcases hx with rfl | rfl <;> decide
 k := fun x hx => by simp [hist12] at hx
 ns := by decide
 nk := by decide
 nl := by decide
 no := fun t ht => by
  simp [hist12] at ht
  rcases ht with rfl | rfl <;> simp
set_option maxRecDepth 10000 in
set_option maxHeartbeats 4000000 in
theorem works12_any (w : World) (hT : UTabs w) (hM : MLen w) (hV : Verbs w) :
  Calls Tryz.prog 12 #[] w fun e w' => e = .returned (.bool true) ∧ Only [] w w' := by
 have HP := Lib.hid (fun w' (O : Only [] w w') => sparse_any ex12 w' (by decide) (fun x hx => by simpa using List.all_eq_true.1 ex12_rows x hx) (by rw [ex12_log]; decide) (fun x hx => by
  rw [ex12_log] at hx
  simp [evs12] at hx
  rcases hx with rfl | rfl | rfl | rfl <;> exact ⟨by decide, by decide⟩) (hT.only O) (hM.only O) (hV.only O))
 have HPR := Lib.hid (fun (A0 A1 A2 : Option Addr) (c0 c1 c2 B : Nat) w' (hA : HAt w' B A0 A1 A2 hist12) (O : Only [] w w') => sprint_any A0 A1 A2 2 0 2 c0 c1 c2 B hist12 w' ⟨hA, rfl, rfl, rfl, ex12_small, hT.only O⟩ (fun _ x hx => by
  rw [ex12_ev] at hx
  simp at hx
  rcases hx with rfl | rfl | rfl | rfl <;> exact ⟨by decide, by decide, by decide, by decide⟩) (hV.only O))
 rw [ex12_show] at HP
 rw [ex12_print] at HPR
 unfold ex12 at HP
 unfold out12 hval at HPR
 clear hT hM hV
 go_enter Tryz.func12, Tryz.ntmps12
 go_wp2_with fail
 refine (HP.out _ (Only.refl [] w)).mono ?_
 rintro e w2 ⟨B0, B1, B2, d0, d1, d2, ⟨rfl, hA⟩, O2⟩
 have HA := Lib.hid hA
 have HO2 := Lib.hid O2
 clear hA O2 HP
 go_wp2_with fail
 have O3 : Only [] w2 (w2.alloc (.cells #[.slice B0 2 d0, .slice B1 0 d1, .slice B2 2 d2] 25)) := (Only.refl [] w2).alloc _
 refine (HPR.out B0 B1 B2 d0 d1 d2 _ _ (HA.out.only O3 (by simp)) (HO2.out.trans O3)).mono ?_
 rintro e w3 ⟨rfl, O4⟩
 have HO4 := Lib.hid ((HO2.out.trans O3).trans O4)
 clear O3 O4
 go_wp2
 go_ret
 exact ⟨rfl, HO4.out⟩
end Go.Proofs.YthaeomdpaadilaaGreatDoor

set_option linter.unusedVariables false
set_option linter.unusedSimpArgs false
namespace Go.Proofs.YthaeomdpaadilaaGreatDoor
open Go.RowKit

deriving instance DecidableEq for Op4, Tx, Hst
def neqOp (xw : Bool) (xk xv xn : Int) (yw : Bool) (yk yv yn : Int) : Bool := !(decide (Op4.mk xw xk xv xn = Op4.mk yw yk yv yn))
theorem run_neq_op4 (xw yw : Bool) (xk xv xn yk yv yn : Int) (w : World) :
  (binOp .neq 50 (.agg #[.bool xw, .int .i64 xk, .int .i64 xv, .int .i64 xn]) (.agg #[.bool yw, .int .i64 yk, .int .i64 yv, .int .i64 yn])).run Tryz.prog w = .ok (.bool (neqOp xw xk xv xn yw yk yv yn)) w := by
 unfold neqOp
 by_cases h0 : xw = yw
 ·subst h0
  by_cases h1 : xk = yk
  ·subst h1
   by_cases h2 : xv = yv
   ·subst h2
    by_cases h3 : xn = yn
    ·subst h3
     go_simp
    ·have e : (xn == yn) = false := by simpa using h3
     rw [decide_eq_false (by simpa using h3)]
     go_simp
   ·have e : (xv == yv) = false := by simpa using h2
    rw [decide_eq_false (by intro e; injection e; contradiction)]
    go_simp
  ·have e : (xk == yk) = false := by simpa using h1
   rw [decide_eq_false (by intro e; injection e; contradiction)]
   go_simp
 ·have e : (xw == yw) = false := by simpa using h0
  rw [decide_eq_false (by intro e; injection e; contradiction)]
  go_simp
end Go.Proofs.YthaeomdpaadilaaGreatDoor

set_option linter.unusedVariables false
set_option linter.unusedSimpArgs false
namespace Go.Proofs.YthaeomdpaadilaaGreatDoor
open Go.RowKit
open Go.Lib hiding intOf
attribute [local go_sem ↓] Go.wp_at_zero Go.wp_at_succ
attribute [local go_sem ↓] run_neq_op4
set_option maxHeartbeats 2000000 in
theorem rtexts_any (A A' : Option Addr) (n m c d : Nat) (xs ys : List ByteArray) (w : World) (B B' : Nat) (hA : Row w B A (strs xs)) (hA' : Row w B' A' (strs ys)) (hn : xs.length = n) (hm : ys.length = m) (hnm : n ≤ 1000000) (hmm : m ≤ 1000000) :
  Calls Tryz.prog 27 #[.slice A n c, .slice A' m d] w fun e w' => e = .returned (.bool (decide (xs = ys))) ∧ ∃ k, w.drewN k = w' := by
 have HA := Lib.hid hA
 have HA' := Lib.hid hA'
 have HN := Lib.hid hn
 have HM := Lib.hid hm
 clear hA hA' hn hm
 by_cases hlen : n = m
 ·subst hlen
  go_enter Tryz.func27, Tryz.ntmps27
  go_wp2_with fail
  go_loopw [5] (fun i wr => ∃ k q : Nat, i = .int .i64 k ∧ k ≤ n ∧ Hid (xs.take k = ys.take k) ∧ Hid (wr = w.drewN q)) (fun i _ => n - (intOf i).toNat)
  case atStart => exact ⟨0, 0, rfl, by omega, rfl, rfl⟩
  case round =>
   obtain ⟨k, q, rfl, hk, hsame, hw⟩ := hrel
   have hxl := HN.out
   have hyl := HM.out
   by_cases hlt : k < n
   ·obtain ⟨x, hx⟩ : ∃ x, xs[k]? = some x := ⟨_, List.getElem?_eq_getElem (by omega)⟩
    obtain ⟨y, hy⟩ : ∃ y, ys[k]? = some y := ⟨_, List.getElem?_eq_getElem (by omega)⟩
    have HX := Lib.hid hx
    have HY := Lib.hid hy
    obtain ⟨b, off, rfl, -, hbw, hc⟩ := HA.out.open_ (k := k) (by rw [strs, List.length_map, HN.out]; exact hlt)
    obtain ⟨b', off', rfl, -, hbw', hc'⟩ := HA'.out.open_ (k := k) (by rw [strs, List.length_map, HM.out]; exact hlt)
    have hcx : wr.cell? ⟨b, off + k, none⟩ = some (.string x) := by rw [hw.out]; exact hc k _ (by rw [strs, List.getElem?_map, hx]; rfl)
    have hcy : wr.cell? ⟨b', off' + k, none⟩ = some (.string y) := by rw [hw.out]; exact hc' k _ (by rw [strs, List.getElem?_map, hy]; rfl)
    clear hc hc' 
    have hk0 : (0 : Int) ≤ (k : Int) := Int.natCast_nonneg _
    have hk1 : (k : Int) < (n : Int) := by omega
    clear hx hy hxl hyl
    by_cases hxy : x = y
    ·have hb : (x.toList == y.toList) = true := by simp [hxy]
     have HXY := Lib.hid hxy
     clear hxy
     go_wp2_with fail
     go_quiet (fail)
     go_wp2
     go_roundw
     case rel =>
      refine ⟨k + 1, q + nq, by go_num, by omega, (takeG_eq hsame.out HX.out HY.out).2 HXY.out, ?_⟩
      show _ = _
      rw [hw.out, World.drewN_drewN]
     case measure => simp [intOf]; omega
    ·have hb := textb_ne hxy
     have hb2 : (x.toList == y.toList) = false := by simpa using hb
     clear hb
     have HXY := Lib.hid hxy
     clear hxy
     go_wp2_with fail
     go_quiet (fail)
     go_wp2
     go_ret
     refine ⟨?_, q + nq, ?_⟩
     ·have : xs ≠ ys := fun e => HXY.out (by
       have h1 := HX.out
       have h2 := HY.out
       rw [e] at h1
       rw [h1] at h2
       exact Option.some.inj h2)
      simp [this]
     ·rw [hw.out, World.drewN_drewN]
   ·have hge : n ≤ k := by omega
    clear hxl hyl
    go_wp2
    go_ret
    refine ⟨?_, q, hw.out.symm⟩
    have h1 := hsame.out
    have h2 := HN.out
    have h3 := HM.out
    rw [List.take_of_length_le (by omega), List.take_of_length_le (by omega)] at h1
    simp [h1]
 ·have hb : ((n : Int) != (m : Int)) = true := by simp; omega
  have hne : xs ≠ ys := fun e => hlen (by rw [← HN.out, ← HM.out, e])
  have HNE := Lib.hid hne
  clear hlen hne
  go_enter Tryz.func27, Tryz.ntmps27
  go_wp2
  go_ret
  exact ⟨by simp [HNE.out], 0, rfl⟩
set_option maxHeartbeats 2000000 in
theorem rsameops_any (A A' : Option Addr) (n m c d : Nat) (xs ys : List Op4) (w : World) (B B' : Nat) (hA : Row w B A (opC xs)) (hA' : Row w B' A' (opC ys)) (hn : xs.length = n) (hm : ys.length = m) (hnm : n ≤ 1000000) (hmm : m ≤ 1000000) :
  Calls Tryz.prog 28 #[.slice A n c, .slice A' m d] w fun e w' => e = .returned (.bool (decide (xs = ys))) ∧ ∃ k, w.drewN k = w' := by
 have HA := Lib.hid hA
 have HA' := Lib.hid hA'
 have HN := Lib.hid hn
 have HM := Lib.hid hm
 clear hA hA' hn hm
 by_cases hlen : n = m
 ·subst hlen
  go_enter Tryz.func28, Tryz.ntmps28
  go_wp2_with fail
  go_loopw [5] (fun i wr => ∃ k q : Nat, i = .int .i64 k ∧ k ≤ n ∧ Hid (xs.take k = ys.take k) ∧ Hid (wr = w.drewN q)) (fun i _ => n - (intOf i).toNat)
  case atStart => exact ⟨0, 0, rfl, by omega, rfl, rfl⟩
  case round =>
   obtain ⟨k, q, rfl, hk, hsame, hw⟩ := hrel
   have hxl := HN.out
   have hyl := HM.out
   by_cases hlt : k < n
   ·obtain ⟨x, hx⟩ : ∃ x, xs[k]? = some x := ⟨_, List.getElem?_eq_getElem (by omega)⟩
    obtain ⟨y, hy⟩ : ∃ y, ys[k]? = some y := ⟨_, List.getElem?_eq_getElem (by omega)⟩
    have HX := Lib.hid hx
    have HY := Lib.hid hy
    obtain ⟨b, off, rfl, -, hbw, h1⟩ := row_op HA.out hx
    obtain ⟨b', off', rfl, -, hbw', h2⟩ := row_op HA'.out hy
    obtain ⟨a0, a1, a2, a3⟩ := (show OpAt wr b (off + k * 4) x by rw [hw.out]; exact h1.only ((Only.refl [] w).drewN q) hbw (by simp))
    obtain ⟨d0, d1, d2, d3⟩ := (show OpAt wr b' (off' + k * 4) y by rw [hw.out]; exact h2.only ((Only.refl [] w).drewN q) hbw' (by simp))
    obtain ⟨xw, xk, xv, xn⟩ := x
    obtain ⟨yw, yk, yv, yn⟩ := y
    dsimp only at a0 a1 a2 a3 d0 d1 d2 d3
    clear h1 h2
    have hk0 : (0 : Int) ≤ (k : Int) := Int.natCast_nonneg _
    have hk1 : (k : Int) < (n : Int) := by omega
    clear hx hy hxl hyl
    by_cases hxy : Op4.mk xw xk xv xn = Op4.mk yw yk yv yn
    ·have hb : neqOp xw xk xv xn yw yk yv yn = false := by unfold neqOp; rw [decide_eq_true hxy]; rfl
     have HXY := Lib.hid hxy
     clear hxy
     go_wp2_with fail
     go_quiet (fail)
     go_wp2
     go_roundw
     case rel =>
      refine ⟨k + 1, q + nq, by go_num, by omega, (takeG_eq hsame.out HX.out HY.out).2 HXY.out, ?_⟩
      show _ = _
      rw [hw.out, World.drewN_drewN]
     case measure => simp [intOf]; omega
    ·have hb : neqOp xw xk xv xn yw yk yv yn = true := by unfold neqOp; rw [decide_eq_false hxy]; rfl
     have HXY := Lib.hid hxy
     clear hxy
     go_wp2_with fail
     go_quiet (fail)
     go_wp2
     go_ret
     refine ⟨?_, q + nq, ?_⟩
     ·have : xs ≠ ys := fun e => HXY.out (by
       have h1 := HX.out
       have h2 := HY.out
       rw [e] at h1
       rw [h1] at h2
       exact Option.some.inj h2)
      simp [this]
     ·rw [hw.out, World.drewN_drewN]
   ·have hge : n ≤ k := by omega
    clear hxl hyl
    go_wp2
    go_ret
    refine ⟨?_, q, hw.out.symm⟩
    have h1 := hsame.out
    have h2 := HN.out
    have h3 := HM.out
    rw [List.take_of_length_le (by omega), List.take_of_length_le (by omega)] at h1
    simp [h1]
 ·have hb : ((n : Int) != (m : Int)) = true := by simp; omega
  have hne : xs ≠ ys := fun e => hlen (by rw [← HN.out, ← HM.out, e])
  have HNE := Lib.hid hne
  clear hlen hne
  go_enter Tryz.func28, Tryz.ntmps28
  go_wp2
  go_ret
  exact ⟨by simp [HNE.out], 0, rfl⟩
end Go.Proofs.YthaeomdpaadilaaGreatDoor

set_option linter.unusedVariables false
set_option linter.unusedSimpArgs false
namespace Go.Proofs.YthaeomdpaadilaaGreatDoor
open Go.RowKit
def eqH (g h : Hst) : Bool := decide (g.ss = h.ss) && (decide (g.ks = h.ks) && decide (g.l = h.l))
end Go.Proofs.YthaeomdpaadilaaGreatDoor

set_option linter.unusedVariables false
set_option linter.unusedSimpArgs false
namespace Go.Proofs.YthaeomdpaadilaaGreatDoor
open Go.RowKit
open Go.Lib hiding intOf
attribute [local go_sem ↓] Go.wp_at_zero Go.wp_at_succ
end Go.Proofs.YthaeomdpaadilaaGreatDoor

set_option linter.unusedVariables false
set_option linter.unusedSimpArgs false
namespace Go.Proofs.YthaeomdpaadilaaGreatDoor
open Go.RowKit
open Go.Lib hiding intOf
attribute [local go_sem ↓] Go.wp_at_zero Go.wp_at_succ
end Go.Proofs.YthaeomdpaadilaaGreatDoor
