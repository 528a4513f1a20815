/- A history that lies there stays behind a store into another history's own block. The package pair: History. Contracts of the package show: Print, Parse. Logs printed are read back: the mathematics. The document's events of a history: without lines first, then the lines. -/
import Derived.Test.YthaeomdpaadilaaGreatDoorShowBackCardK2
import Derived.Test.YthaeomdpaadilaaGreatDoorShowBackCardK36
import Derived.Test.YthaeomdpaadilaaGreatDoorShowBackCardK26
import Derived.Test.YthaeomdpaadilaaGreatDoorShowBackCardK22
import Derived.Test.YthaeomdpaadilaaGreatDoorShowBackCardK21
import Derived.Test.YthaeomdpaadilaaGreatDoorShowBackCardK10
set_option linter.unusedVariables false
set_option linter.unusedSimpArgs false
namespace Go.Proofs.YthaeomdpaadilaaGreatDoor
open Go.RowKit
open Go.Lib

/-- A row does not lie in a block that holds nothing like its first cell. -/
theorem row_beside {w w' : World} {B : Nat} {A : Option Addr} {xs : List Value} {g : Nat} {t : TypeId} {cs : Array Value} (h : Row w B A xs) (hb : Blk w g t cs) (hne : ∀ u : Value, xs[0]? = some u → ∀ j : Nat, cs[j]? ≠ some u) (ho : Only [g] w w') : Row w' w'.heap.size A xs := by
  rcases h with rfl | ⟨b, off, rfl, h1, h2, hc⟩
  · exact .inl rfl
  · cases xs with
    | nil => exact .inl rfl
    | cons u xs =>
      have h0 := hc 0 u rfl
      have hbg : b ≠ g := fun e => by
        subst e
        rw [hb.at_] at h0
        exact hne u rfl _ h0
      have := ho.size
      exact .inr ⟨b, off, rfl, by omega, by omega, fun j v hv => (ho.cell (p := ⟨b, off + j, none⟩) (by show b < _; omega) (by simp [hbg])).trans (hc j v hv)⟩
theorem hat_past {w w' : World} {B : Nat} {A0 A1 A2 : Option Addr} {h : Hst} {g : Nat} {t : TypeId} {a0 a1 a2 : Option Addr} {k0 k1 k2 e0 e1 e2 : Nat} (hI : HAt w B A0 A1 A2 h) (hb : Blk w g t #[.slice a0 k0 e0, .slice a1 k1 e1, .slice a2 k2 e2]) (ho : Only [g] w w') : HAt w' w'.heap.size A0 A1 A2 h := by
  have key : ∀ (u : Value), (∀ a n c, u ≠ .slice a n c) → ∀ j : Nat, (#[Value.slice a0 k0 e0, .slice a1 k1 e1, .slice a2 k2 e2] : Array Value)[j]? ≠ some u := by
    intro u hu j hj
    match j with
    | 0 => simp at hj; exact hu _ _ _ hj.symm
    | 1 => simp at hj; exact hu _ _ _ hj.symm
    | 2 => simp at hj; exact hu _ _ _ hj.symm
    | j + 3 => simp at hj
  obtain ⟨r0, r1, ⟨xs, hx, r2, hxs⟩⟩ := hI
  have ks : ∀ l : List ByteArray, ∀ u : Value, (strs l)[0]? = some u → ∀ a n c, u ≠ .slice a n c := by
    intro l u hu a n c e
    subst e
    cases l <;> simp [strs] at hu
  refine ⟨row_beside r0 hb (fun u hu => key u (ks _ u hu)) ho, row_beside r1 hb (fun u hu => key u (ks _ u hu)) ho, ⟨xs, hx, row_beside r2 hb (fun u hu => key u ?_) ho, fun x hx => ⟨row_beside (hxs x hx).row hb (fun u hu => key u ?_) ho, (hxs x hx).le, (hxs x hx).cap⟩⟩⟩
  · intro a n c e
    subst e
    cases xs <;> simp [txC, TxA.c] at hu
  · intro a n c e
    subst e
    cases hxo : x.t.ops with
    | nil => rw [hxo] at hu; simp [opC] at hu
    | cons y l => rw [hxo] at hu; simp [opC, Op4.c] at hu

end Go.Proofs.YthaeomdpaadilaaGreatDoor

set_option linter.unusedVariables false
set_option linter.unusedSimpArgs false
namespace Go.Proofs.YthaeomdpaadilaaGreatDoor
open Go.RowKit
open Go.Lib hiding intOf
attribute [local go_sem ↓] Go.wp_at_zero Go.wp_at_succ

def pairE (l : List Ev6) : Int := (followR l).2.2
def pairL (l : List Ev6) : Int := (followR l).2.1
def pairH (l : List Ev6) : Hst := if pairE l = 0 then histOf (followR l).1 else ⟨[], [], []⟩
theorem pair_line {l : List Ev6} (h : pairE l = 0) : pairL l = 0 := by
  unfold pairE pairL followR at *
  split
  · rename_i hr
    rw [if_pos hr] at h
    unfold endE at h ⊢
    dsimp only at h ⊢
    split
    · rename_i p hp
      rw [hp] at h
      cases h
    · rfl
  · rename_i hr
    rw [if_neg hr] at h
    exact absurd h hr

set_option maxRecDepth 100000 in
set_option maxHeartbeats 8000000 in
theorem phist_any (A : Option Addr) (n c : Nat) (l : List Ev6) (w : World) (hn : l.length = n) (hnm : n ≤ 100000) (hA : Row w w.heap.size A (logC l)) (hz : ∀ x ∈ l, x.s.size ≤ 65537 ∧ x.y.size ≤ 65537) (hT : UTabs w) (hV : Verbs w) :
    Calls Tryz.prog 24 #[.slice A n c] w fun e w' => ∃ B0 B1 B2 d0 d1 d2, (e = .returned (.tuple #[.agg #[.slice B0 (pairH l).ss.length d0, .slice B1 (pairH l).ks.length d1, .slice B2 (pairH l).l.length d2], .int .i64 (pairL l), .int .i64 (pairE l)]) ∧ HAt w' w'.heap.size B0 B1 B2 (pairH l)) ∧ Only [] w w' := by
  have HR0 := Lib.hid (Blk.made w 25 #[.slice none 0 0, .slice none 0 0, .slice none 0 0])
  have HO1 := Lib.hid ((Only.refl [] w).alloc (.cells #[.slice none 0 0, .slice none 0 0, .slice none 0 0] 25))
  have HFO := Lib.hid (follow_any A n c l _ hn hnm (row_up (hA.only HO1.out (by simp))) hz (hT.only HO1.out) (hV.only HO1.out))
  have HT := Lib.hid (fun w' (O : Only [] w w') => hT.only O)
  have HE : Hid (pairE l = (followR l).2.2) := Lib.hid rfl
  have HL : Hid (pairL l = (followR l).2.1) := Lib.hid rfl
  have HPL := Lib.hid (@pair_line l)
  have HH : Hid (pairH l = if pairE l = 0 then histOf (followR l).1 else ⟨[], [], []⟩) := Lib.hid rfl
  rw [← HE.out, ← HL.out] at HFO
  generalize pairE l = pe at *
  generalize pairL l = pl at *
  generalize pairH l = ph at *
  generalize followR l = fr at *
  obtain ⟨m, r⟩ := fr
  dsimp only at HFO HH
  clear hn hnm hA hz hT hV HE HL
  go_enter Tryz.func24, Tryz.ntmps24
  go_wp2_with fail
  generalize (w.alloc (.cells #[.slice none 0 0, .slice none 0 0, .slice none 0 0] 25)) = w1 at *
  generalize hgr : w.heap.size = gr at *
  refine (HFO.out).mono ?_
  rintro e w2 ⟨gm, rfl, O2, hm2⟩
  have HR2 := Lib.hid (O2.blk HR0.out (by simp))
  have HO2 := Lib.hid O2
  have HM2 := Lib.hid hm2
  have hgr1 := HR0.out.lt
  clear O2 hm2 HFO HR0
  by_cases he : pe = 0
  · have hb : (pe != 0) = false := by simp [he]
    obtain ⟨V, xs, A0, A1, c0, c1, b, D, hmk, hmb⟩ := HM2.out (.inl he)
    have hpb := HH.out
    rw [if_pos he] at hpb
    have hpl := HPL.out he
    have HPB := Lib.hid hpb
    have HPL2 := Lib.hid hpl
    have HEE := Lib.hid he
    have hge := mine_ge hmk
    have hob : ∀ i ∈ opB4 xs, w1.heap.size ≤ i := fun i hi => hge i (by
      simp only [opB4, List.mem_flatMap] at hi
      obtain ⟨x, hx, h⟩ := hi
      rw [mine_mem]
      exact .inr (.inr (.inr ⟨x, hx, by unfold partB; rw [List.mem_append]; exact .inr h⟩)))
    have HOB := Lib.hid hob
    have HMH := Lib.hid (mhist_any w1.heap.size gm m V xs A0 A1 c0 c1 b D w2 hmk hmb HO2.out.size (fun w' O => HT.out w' ((HO1.out.trans HO2.out).step O (fun i hi hl => by have := hob i hi; omega))))
    have hgm : Blk w2 gm 121 _ := hmk.blk
    clear he hpb hpl hge hob hmk hmb HPL HH HM2
    go_wp2_with fail
    refine (HMH.out).mono ?_
    rintro e w3 ⟨B0, B1, B2, d0, d1, d2, ⟨rfl, hA3⟩, O3⟩
    have hR3 : Blk w3 gr 25 #[.slice none 0 0, .slice none 0 0, .slice none 0 0] := O3.blk HR2.out (fun hm => by have := HOB.out _ hm; omega)
    have HR3 := Lib.hid hR3
    have HA3 := Lib.hid hA3
    have HO3 : Hid (Only [] w w3) := Lib.hid ((HO1.out.trans HO2.out).step O3 (fun i hi hl => by have := HOB.out i hi; omega))
    rw [← HPB.out] at HA3
    rw [← HPB.out]
    clear hR3 hA3 O3
    go_wp2_with (refine wpList_store_blk rfl 25 (.tmp 2) (.tmp 20) rfl gr 25 _ #[.slice B0 ph.ss.length d0, .slice B1 ph.ks.length d1, .slice B2 ph.l.length d2] rfl rfl HR3.out rfl (by kernel_rfl) (by kernel_rfl) ?_; intro w9 b9 o9; have HB9 := Lib.hid b9; have HN9 := Lib.hid o9; clear b9 o9)
    refine bodyPost_ret (results_row3 Tryz.results24 _ _ gr 25 #[.slice B0 ph.ss.length d0, .slice B1 ph.ks.length d1, .slice B2 ph.l.length d2] _ rfl HB9.out Tryz.underlying25 rfl (by kernel_rfl)) rfl ?_
    refine ⟨B0, B1, B2, d0, d1, d2, ⟨by rw [HPL2.out, HEE.out]; rfl, hat_past HA3.out HR3.out HN9.out⟩, HO3.out.step HN9.out (fun i hi hl => by simp at hi; omega)⟩
  · have hb : (pe != 0) = true := by simpa using he
    have hpb := HH.out
    rw [if_neg he] at hpb
    clear he
    subst hpb
    go_wp2_with (refine wpList_store_blk rfl 25 (.tmp 2) (.tmp 16) rfl gr 25 _ #[.slice none 0 0, .slice none 0 0, .slice none 0 0] rfl rfl HR2.out rfl (by kernel_rfl) (by kernel_rfl) ?_; intro w9 b9 o9; have HB9 := Lib.hid b9; have HN9 := Lib.hid o9; clear b9 o9)
    refine bodyPost_ret (results_row3 Tryz.results24 _ _ gr 25 #[.slice none 0 0, .slice none 0 0, .slice none 0 0] _ rfl HB9.out Tryz.underlying25 rfl (by kernel_rfl)) rfl ?_
    exact ⟨⟨none, none, none, ⟨0, 0, 0, rfl⟩, ⟨.inl rfl, .inl rfl, LRow.nil⟩⟩, (HO1.out.trans HO2.out).step HN9.out (fun i hi hl => by simp at hi; omega)⟩

end Go.Proofs.YthaeomdpaadilaaGreatDoor

set_option linter.unusedVariables false
set_option linter.unusedSimpArgs false
namespace Go.Proofs.YthaeomdpaadilaaGreatDoor
open Go.RowKit
open Go.Lib hiding intOf
attribute [local go_sem ↓] Go.wp_at_zero Go.wp_at_succ

/-- What a history is printed as, with the error. -/
def showP (h : Hst) : ByteArray × Int := if errH h = 0 then logPrint (evsH h) else (⟨#[]⟩, errH h)

set_option maxRecDepth 10000 in
set_option maxHeartbeats 4000000 in
theorem sprint_any (A0 A1 A2 : Option Addr) (n0 n1 n2 c0 c1 c2 B : Nat) (h : Hst) (w : World) (hg : HIn w B A0 A1 A2 n0 n1 n2 h) (hb : errH h = 0 → ∀ x ∈ evsH h, EvB x) (hV : Verbs w) :
    Calls Tryz.prog 9 #[hval A0 A1 A2 n0 n1 n2 c0 c1 c2] w fun e w' => e = .returned (.tuple #[.string (showP h).1, .int .i64 (showP h).2]) ∧ Only [] w w' := by
  have HEV := Lib.hid (fun w' (O : Only [] w w') => sevents_any A0 A1 A2 n0 n1 n2 c0 c1 c2 B h w' (hg.same O))
  have HLN : Hid (errH h = 0 → (evsH h).length ≤ 1000) := Lib.hid (fun he => by
    obtain ⟨h1, h2⟩ := may_len he
    have := fold_len h.ss h.ks h.l h2 []
    simp at this
    show (h.l.foldl (addT h.ss h.ks) []).length ≤ 1000
    omega)
  have HPR := Lib.hid (fun (A : Option Addr) (n c : Nat) (he : errH h = 0) w' (hn : (evsH h).length = n) (O : Only [] w w') hA => logprint_any A n c w'.heap.size (evsH h) w' hn (by have := HLN.out he; omega) (hb he) hA (hg.u.only O) (hV.only O))
  unfold hval at HEV ⊢
  unfold showP
  clear hg hb hV
  have HO0 := Lib.hid ((Only.refl [] w).alloc (.cells #[.slice A0 n0 c0, .slice A1 n1 c1, .slice A2 n2 c2] 25))
  have HE1 := Lib.hid (HEV.out _ HO0.out)
  clear HEV
  by_cases he : errH h = 0
  · rw [if_pos he]
    have HPP := Lib.hid (fun A n c => HPR.out A n c he)
    rw [if_pos he, he] at HE1
    clear he HPR HLN
    generalize logPrint (evsH h) = r at *
    go_enter Tryz.func9, Tryz.ntmps9
    go_wp2_with fail
    refine (HE1.out).mono ?_
    rintro e w1 ⟨V, n, rfl, O1, hn, hown⟩
    have HO1 := Lib.hid (HO0.out.trans O1)
    subst hn
    obtain ⟨A, c, rfl, -, -, -, hrow⟩ := own_row hown
    have HP := Lib.hid (HPP.out A _ c _ rfl HO1.out hrow)
    clear hown hrow O1 HE1 HO0 HPP
    generalize (evsH h).length = n at *
    go_wp2_with fail
    refine (HP.out).mono ?_
    rintro e w2 ⟨rfl, O2⟩
    have HO2 := Lib.hid (HO1.out.trans O2)
    clear O2 HP HO1
    go_wp2
    go_ret2
    exact ⟨rfl, HO2.out⟩
  · have hne : (errH h != 0) = true := by simpa using he
    rw [if_neg he]
    rw [if_neg he] at HE1
    generalize errH h = er at *
    clear he HPR HLN
    go_enter Tryz.func9, Tryz.ntmps9
    go_wp2_with fail
    refine (HE1.out).mono ?_
    rintro e w1 ⟨V, n, rfl, O1, hn, hown⟩
    have HO1 := Lib.hid (HO0.out.trans O1)
    subst hn
    obtain ⟨A, c, rfl, -, -, -, hrow⟩ := own_row hown
    clear hown hrow O1 HE1 HO0
    go_wp2
    go_ret2
    exact ⟨rfl, HO1.out⟩

/-- What a text is read as: the history, the line, the error. -/
def showR (s : ByteArray) : Hst × Int × Int :=
  if (logParse s).2.2 = 0 then (pairH (logParse s).1, pairL (logParse s).1, pairE (logParse s).1) else (⟨[], [], []⟩, (logParse s).2.1, (logParse s).2.2)

set_option maxRecDepth 10000 in
set_option maxHeartbeats 4000000 in
theorem sparse_any (s : ByteArray) (w : World) (hs : s.size ≤ 65536) (hrow : ∀ x ∈ linesOf (by_ s), x.length ≤ 65535) (hln : (logParse s).1.length ≤ 1000) (hz : ∀ x ∈ (logParse s).1, x.s.size ≤ 65537 ∧ x.y.size ≤ 65537) (hT : UTabs w) (hM : MLen w) (hV : Verbs w) :
    Calls Tryz.prog 13 #[.string s] w fun e w' => ∃ B0 B1 B2 d0 d1 d2, (e = .returned (.tuple #[.agg #[.slice B0 (showR s).1.ss.length d0, .slice B1 (showR s).1.ks.length d1, .slice B2 (showR s).1.l.length d2], .int .i64 (showR s).2.1, .int .i64 (showR s).2.2]) ∧ HAt w' w'.heap.size B0 B1 B2 (showR s).1) ∧ Only [] w w' := by
  have HR0 := Lib.hid (Blk.made w 25 #[.slice none 0 0, .slice none 0 0, .slice none 0 0])
  have HO1 := Lib.hid ((Only.refl [] w).alloc (.cells #[.slice none 0 0, .slice none 0 0, .slice none 0 0] 25))
  have HLP := Lib.hid (logparse_any s _ hs hrow (hT.only HO1.out) (hM.only HO1.out) (hV.only HO1.out))
  have HPH := Lib.hid (fun (A : Option Addr) (n c : Nat) w' (O : Only [] w w') (hn : (logParse s).1.length = n) hA => phist_any A n c (logParse s).1 w' hn (by omega) hA hz (hT.only O) (hV.only O))
  clear hs hrow hT hM hV hz
  unfold showR
  generalize logParse s = r at *
  obtain ⟨l, at_, er⟩ := r
  dsimp only at HLP HPH hln ⊢
  have HN := Lib.hid hln
  clear hln
  by_cases he : er = 0
  · subst he
    rw [if_pos rfl]
    dsimp only
    revert HPH
    generalize pairH l = ph
    generalize pairE l = pe
    generalize pairL l = pl
    intro HPH
    go_enter Tryz.func13, Tryz.ntmps13
    go_wp2_with fail
    generalize (w.alloc (.cells #[.slice none 0 0, .slice none 0 0, .slice none 0 0] 25)) = w1 at *
    generalize hgr : w.heap.size = gr at *
    refine (HLP.out).mono ?_
    rintro e w2 ⟨O2, V, rfl, hown⟩
    have HO2 := Lib.hid (HO1.out.trans O2)
    have HR2 := Lib.hid (O2.blk HR0.out (by simp))
    obtain ⟨A, c, rfl, -, -, -, hrow⟩ := own_row hown
    have HP := Lib.hid (HPH.out A _ c _ HO2.out rfl hrow)
    clear O2 hown hrow HPH HLP HR0
    generalize l.length = n at *
    go_wp2_with fail
    refine (HP.out).mono ?_
    rintro e w3 ⟨B0, B1, B2, d0, d1, d2, ⟨rfl, hA3⟩, O3⟩
    have HR3 := Lib.hid (O3.blk HR2.out (by simp))
    have HA3 := Lib.hid hA3
    have HO3 := Lib.hid (HO2.out.trans O3)
    clear O3 HP HO2 HR2 hA3
    go_wp2_with (refine wpList_store_blk rfl 25 (.tmp 2) (.tmp 21) rfl gr 25 _ #[.slice B0 ph.ss.length d0, .slice B1 ph.ks.length d1, .slice B2 ph.l.length d2] rfl rfl HR3.out rfl (by kernel_rfl) (by kernel_rfl) ?_; intro w9 b9 o9; have HB9 := Lib.hid b9; have HN9 := Lib.hid o9; clear b9 o9)
    refine bodyPost_ret (results_row3 Tryz.results13 _ _ gr 25 #[.slice B0 ph.ss.length d0, .slice B1 ph.ks.length d1, .slice B2 ph.l.length d2] _ rfl HB9.out Tryz.underlying25 rfl (by kernel_rfl)) rfl ?_
    exact ⟨B0, B1, B2, d0, d1, d2, ⟨rfl, hat_past HA3.out HR3.out HN9.out⟩, HO3.out.step HN9.out (fun i hi hl => by simp at hi; omega)⟩
  · have hne : (er != 0) = true := by simpa using he
    rw [if_neg he]
    dsimp only
    clear he
    go_enter Tryz.func13, Tryz.ntmps13
    go_wp2_with fail
    generalize (w.alloc (.cells #[.slice none 0 0, .slice none 0 0, .slice none 0 0] 25)) = w1 at *
    generalize hgr : w.heap.size = gr at *
    refine (HLP.out).mono ?_
    rintro e w2 ⟨O2, V, rfl, -⟩
    have HO2 := Lib.hid (HO1.out.trans O2)
    have HR2 := Lib.hid (O2.blk HR0.out (by simp))
    clear O2 HPH HLP HR0
    go_wp2_with (refine wpList_store_blk rfl 25 (.tmp 2) (.tmp 16) rfl gr 25 _ #[.slice none 0 0, .slice none 0 0, .slice none 0 0] rfl rfl HR2.out rfl (by kernel_rfl) (by kernel_rfl) ?_; intro w9 b9 o9; have HB9 := Lib.hid b9; have HN9 := Lib.hid o9; clear b9 o9)
    refine bodyPost_ret (results_row3 Tryz.results13 _ _ gr 25 #[.slice none 0 0, .slice none 0 0, .slice none 0 0] _ rfl HB9.out Tryz.underlying25 rfl (by kernel_rfl)) rfl ?_
    exact ⟨none, none, none, 0, 0, 0, ⟨rfl, ⟨.inl rfl, .inl rfl, LRow.nil⟩⟩, HO2.out.step HN9.out (fun i hi hl => by simp at hi; omega)⟩
end Go.Proofs.YthaeomdpaadilaaGreatDoor

set_option linter.unusedVariables false
set_option linter.unusedSimpArgs false
namespace Go.Proofs.YthaeomdpaadilaaGreatDoor
open Go.RowKit
open Go.Lib hiding intOf

/-- Events with their lines, from a number on. -/
def numb : List Ev6 → Int → List Ev6
  | [], _ => []
  | x :: r, i => { x with ln := i } :: numb r (i + 1)
theorem numb_len : ∀ (l : List Ev6) (i : Int), (numb l i).length = l.length
  | [], _ => rfl
  | x :: r, i => by simp [numb, numb_len r]
theorem evT_back {x : Ev6} (h : okE x = true) (hb : EvB x) : evParse (evT x) = ⟨x.k, x.s, x.y, x.vk, x.vn, true, 0⟩ := ev_back h hb.n1 hb.n2
theorem logOf_all : ∀ (xs : List Ev6) (i : Int) (acc : List Ev6), (∀ x ∈ xs, okE x = true ∧ EvB x) → acc.length + xs.length ≤ 1000 → logOf (xs.map evT) i acc = (acc ++ numb xs i, 0, 0)
  | [], i, acc, _, _ => by simp [logOf, numb]
  | x :: r, i, acc, h, hl => by
    have hx := h x (by simp)
    have hp := evT_back hx.1 hx.2
    have hl2 : acc.length ≠ 1000 := by simp at hl; omega
    have h1 : stepE acc (evT x) = 0 := by
      unfold stepE
      rw [hp]
      simp [hl2]
    have h2 : stepL acc i (evT x) = acc ++ [{ x with ln := i }] := by
      unfold stepL
      rw [hp]
      simp [hl2]
    rw [List.map_cons, logOf, if_pos h1, h2, logOf_all r (i + 1) _ (fun y hy => h y (by simp [hy])) (by simp at hl ⊢; omega)]
    simp [numb]
theorem printOf_some : ∀ (xs : List Ev6) (acc t : List UInt8), acc.length ≤ 65536 → printOf xs acc = some t → t = acc ++ (xs.map fun x => by_ (evT x) ++ [10]).flatten ∧ t.length ≤ 65536
  | [], acc, t, ha, h => by
    simp [printOf] at h
    subst h
    exact ⟨by simp, ha⟩
  | x :: r, acc, t, ha, h => by
    rw [printOf] at h
    by_cases hl : 65536 < acc.length + (evT x).size + 1
    · rw [if_pos hl] at h; cases h
    · rw [if_neg hl] at h
      obtain ⟨h1, h2⟩ := printOf_some r _ t (by rw [List.length_append, List.length_append, by_length]; simp; omega) h
      refine ⟨?_, h2⟩
      rw [h1]
      simp
theorem cut_line : ∀ (a cur t : List UInt8), (10 : UInt8) ∉ a → cutL cur (a ++ 10 :: t) = (cur ++ a) :: cutL [] t
  | [], cur, t, _ => by simp [cutL]
  | b :: a, cur, t, h => by
    have hb : b ≠ 10 := fun e => h (by simp [e])
    have := cut_line a (cur ++ [b]) t (fun hm => h (by simp [hm]))
    rw [List.cons_append, cutL, if_neg (by simpa using hb), this]
    simp
theorem lines_all : ∀ (ls : List (List UInt8)), (∀ a ∈ ls, (10 : UInt8) ∉ a) → linesOf (ls.map fun a => a ++ [10]).flatten = ls
  | [], _ => rfl
  | a :: ls, h => by
    have ih := lines_all ls (fun x hx => h x (by simp [hx]))
    unfold linesOf at ih ⊢
    rw [List.map_cons, List.flatten_cons, List.append_assoc, List.singleton_append, cut_line a [] _ (h a (by simp)), ih]
    simp
/-- A line that is printed is clean. -/
theorem evT_clean {x : Ev6} (h : okE x = true) (hb : EvB x) : badL (by_ (evT x)) = false := by
  have hp := evT_back h hb
  cases hc : badL (by_ (evT x)) with
  | false => rfl
  | true =>
    unfold evParse at hp
    rw [if_pos hc] at hp
    have := congrArg EvR.is hp
    simp [evNo] at this
theorem log_back {l : List Ev6} (hb : ∀ x ∈ l, EvB x) (hl : l.length ≤ 1000) (he : (logPrint l).2 = 0) :
    logParse (logPrint l).1 = (numb l 1, 0, 0) ∧ (logPrint l).1.size ≤ 65536 ∧ ∀ a ∈ linesOf (by_ (logPrint l).1), a.length ≤ 65535 := by
  unfold logPrint at he ⊢
  by_cases hall : l.all okE = true
  · rw [if_pos hall] at he ⊢
    cases hp : printOf l [] with
    | none => rw [hp] at he; exact absurd he (by simp)
    | some t =>
      obtain ⟨h1, h2⟩ := printOf_some l [] t (by simp) hp
      dsimp only
      have hok : ∀ x ∈ l, okE x = true := fun x hx => List.all_eq_true.1 hall x hx
      have hcl : ∀ a ∈ l.map (fun x => by_ (evT x)), (10 : UInt8) ∉ a ∧ validD a = true ∧ a.length ≤ 5000 := by
        intro a ha
        obtain ⟨x, hx, rfl⟩ := List.mem_map.1 ha
        have hc := evT_clean (hok x hx) (hb x hx)
        unfold badL at hc
        simp at hc
        exact ⟨hc.2, hc.1, by rw [by_length]; exact evT_size (hb x hx)⟩
      have hbt : by_ (⟨t.toArray⟩ : ByteArray) = t := by show t.toArray.toList = t; simp
      have hlin : linesOf t = l.map fun x => by_ (evT x) := by
        have := lines_all (l.map fun x => by_ (evT x)) (fun a ha => (hcl a ha).1)
        rw [List.map_map] at this
        rw [h1, List.nil_append]
        exact this
      have hsz : (⟨t.toArray⟩ : ByteArray).size ≤ 65536 := by
        have : (⟨t.toArray⟩ : ByteArray).size = t.length := by simp [ByteArray.size]
        omega
      refine ⟨?_, hsz, fun a ha => ?_⟩
      · unfold logParse
        rw [if_neg (by omega), hbt, hlin]
        have hidx : (l.map fun x => by_ (evT x)).findIdx? (fun x => !validD x) = none := by
          rw [List.findIdx?_eq_none_iff]
          intro a ha
          rw [(hcl a ha).2.1]
          rfl
        rw [hidx]
        dsimp only
        rw [rows_eq (xs := l.map evT) (by rw [hbt, hlin, List.map_map]; rfl)]
        rw [logOf_all l 1 [] (fun x hx => ⟨hok x hx, hb x hx⟩) (by simpa using hl)]
        simp
      · rw [hbt, hlin] at ha
        have := (hcl a ha).2.2
        omega
  · rw [if_neg hall] at he
    exact absurd he (by simp)
theorem log_empty (l : List Ev6) (he : (logPrint l).2 ≠ 0) : (logPrint l).1 = ⟨#[]⟩ := by
  unfold logPrint at he ⊢
  split
  · rename_i h
    rw [if_pos h] at he
    cases hp : printOf l [] with
    | none => rfl
    | some t => rw [hp] at he; exact absurd rfl he
  · rfl

end Go.Proofs.YthaeomdpaadilaaGreatDoor

set_option linter.unusedVariables false
set_option linter.unusedSimpArgs false
namespace Go.Proofs.YthaeomdpaadilaaGreatDoor

def adZ (acc : List Ev6) (k : Int) (s y : ByteArray) (vk vn : Int) : List Ev6 := acc ++ [⟨k, s, y, vk, vn, 0⟩]
def zdO (ks : List ByteArray) (s : ByteArray) (acc : List Ev6) (x : Op4) : List Ev6 := adZ acc (kindO x) s (nth ks x.key) x.vk x.vn
def zdT (ss ks : List ByteArray) (acc : List Ev6) (t : Tx) : List Ev6 :=
  adZ (t.ops.foldl (zdO ks (nth ss t.s)) (adZ acc 1 (nth ss t.s) ⟨#[]⟩ 0 0)) (endK t.f) (nth ss t.s) ⟨#[]⟩ 0 0
/-- The events without lines. -/
def evsZ (h : Hst) : List Ev6 := h.l.foldl (zdT h.ss h.ks) []
/-- Events with their lines, the first being 1. -/
def lined (l : List Ev6) : List Ev6 := l.mapIdx fun i x => { x with ln := (i : Int) + 1 }
theorem lined_len (l : List Ev6) : (lined l).length = l.length := by simp [lined]
theorem lined_adZ (acc : List Ev6) (k : Int) (s y : ByteArray) (vk vn : Int) : lined (adZ acc k s y vk vn) = adE (lined acc) k s y vk vn := by
  unfold adZ adE
  rw [lined_len]
  unfold lined
  rw [List.mapIdx_append]
  simp
theorem lined_ops (ks : List ByteArray) (s : ByteArray) : ∀ (ops : List Op4) (acc : List Ev6), lined (ops.foldl (zdO ks s) acc) = ops.foldl (addO ks s) (lined acc)
  | [], acc => rfl
  | o :: ops, acc => by
    rw [List.foldl_cons, List.foldl_cons, lined_ops ks s ops]
    congr 1
    exact lined_adZ ..
theorem lined_txs (ss ks : List ByteArray) : ∀ (l : List Tx) (acc : List Ev6), lined (l.foldl (zdT ss ks) acc) = l.foldl (addT ss ks) (lined acc)
  | [], acc => rfl
  | t :: l, acc => by
    rw [List.foldl_cons, List.foldl_cons, lined_txs ss ks l]
    congr 1
    unfold zdT addT
    rw [lined_adZ, lined_ops, lined_adZ]
theorem evs_lined (h : Hst) : evsH h = lined (evsZ h) := (lined_txs h.ss h.ks h.l []).symm
theorem evsZ_len (h : Hst) : (evsZ h).length = (evsH h).length := by rw [evs_lined, lined_len]
end Go.Proofs.YthaeomdpaadilaaGreatDoor
