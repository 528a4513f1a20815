/- A contract of the library at this program: what it asks of the program, field by field. Contracts of the package split: Join. Words joined and parted again: the mathematics. -/
import Derived.Test.YthaeomdpaadilaaGreatDoorProg
import Derived.Ground.NamesProg
import Derived.Shelf.Strings.OnBuilder
import Derived.Test.YthaeomdpaadilaaGreatDoorShowBackCardK16
namespace Go.Proofs
open Go.Shelf
def Tryz.laysJoin_ren : Go.Shelf.Ren := ⟨fun | 156 => 88 | 165 => 109 | 166 => 37 | 169 => 39 | 240 => 64 | 241 => 117 | 276 => 90 | 277 => 122 | n => n, fun | 31 => 22 | 9 => 9 | 3 => 3 | 4 => 4 | 0 => 0 | 20 => 20 | 72 => 67 | 76 => 72 | 70 => 64 | 37 => 65 | 75 => 71 | 127 => 108 | 164 => 138 | 5 => 5 | 80 => 75 | n => n, fun | n => n⟩
theorem Tryz.laysJoin : Go.Proofs.Lays.n156 Tryz.prog Tryz.laysJoin_ren := {
  mixed := by kernel_rfl
  f156 := Tryz.func88.trans (congrArg some (by kernel_rfl))
  f165 := Tryz.func109.trans (congrArg some (by kernel_rfl))
  f166 := Tryz.func37.trans (congrArg some (by kernel_rfl))
  f169 := Tryz.func39.trans (congrArg some (by kernel_rfl))
  f240 := Tryz.func64.trans (congrArg some (by kernel_rfl))
  f241 := Tryz.func117.trans (congrArg some (by kernel_rfl))
  f276 := Tryz.func90.trans (congrArg some (by kernel_rfl))
  f277 := Tryz.func122.trans (congrArg some (by kernel_rfl))
  t0 := Tryz.underlying0
  a0 := Tryz.isAgg0
  z0 := Tryz.sizeOf0
  v0 := Tryz.zeroValue0
  t3 := Tryz.underlying3
  a3 := Tryz.isAgg3
  z3 := Tryz.sizeOf3
  v3 := Tryz.zeroValue3
  t4 := Tryz.underlying4
  a4 := Tryz.isAgg4
  z4 := Tryz.sizeOf4
  v4 := Tryz.zeroValue4
  t9 := Tryz.underlying9
  a9 := Tryz.isAgg9
  z9 := Tryz.sizeOf9
  v9 := Tryz.zeroValue9
  t20 := Tryz.underlying20
  a20 := Tryz.isAgg20
  z20 := Tryz.sizeOf20
  v20 := Tryz.zeroValue20
  t31 := Tryz.underlying22
  a31 := Tryz.isAgg22
  z31 := Tryz.sizeOf22
  v31 := Tryz.zeroValue22
  t37 := Tryz.underlying65
  a37 := Tryz.isAgg65
  z37 := Tryz.sizeOf65
  v37 := Tryz.zeroValue65
  t70 := Tryz.underlying64
  a70 := Tryz.isAgg64
  z70 := Tryz.sizeOf64
  v70 := Tryz.zeroValue64
  t72 := Tryz.underlying67
  a72 := Tryz.isAgg67
  z72 := Tryz.sizeOf67
  v72 := Tryz.zeroValue67
  t75 := Tryz.underlying71
  a75 := Tryz.isAgg71
  z75 := Tryz.sizeOf71
  v75 := Tryz.zeroValue71
  t76 := Tryz.underlying72
  a76 := Tryz.isAgg72
  z76 := Tryz.sizeOf72
  v76 := Tryz.zeroValue72
  t127 := Tryz.underlying108
  a127 := Tryz.isAgg108
  z127 := Tryz.sizeOf108
  v127 := Tryz.zeroValue108
  t164 := Tryz.underlying138
  a164 := Tryz.isAgg138
  z164 := Tryz.sizeOf138
  v164 := Tryz.zeroValue138 }
end Go.Proofs

set_option linter.unusedVariables false
set_option linter.unusedSimpArgs false
namespace Go.Proofs.YthaeomdpaadilaaGreatDoor
open Go.RowKit
open Go.Lib hiding intOf
attribute [local go_sem ↓] Go.wp_at_zero Go.wp_at_succ

theorem extraJ : Builder.Extra Tryz.prog Tryz.laysJoin_ren where
  sizeBuilder := by kernel_rfl
  liesBuilder := by kernel_rfl
  t5 := Tryz.underlying5
  a5 := Tryz.isAgg5
  z5 := Tryz.sizeOf5
  v5 := Tryz.zeroValue5
  infoByte := by kernel_rfl
  cellsByte := by kernel_rfl
  sizeByte := by kernel_rfl
  neB5 := by decide

def joinW (xs : List ByteArray) : List UInt8 := Lib.join (xs.map by_) [32]

theorem sjoin_any (A : Option Addr) (n c B : Nat) (xs : List ByteArray) (w : World) (hA : Row w B A (strs xs)) (hn : xs.length = n) (hc : n ≤ c) (hl : (joinW xs).length ≤ 140737488355328) (hN : n ≤ 140737488355328) :
    Calls Tryz.prog 88 #[.slice A n c, .string ⟨#[32]⟩] w fun e w' => e = .returned (.string ⟨(joinW xs).toArray⟩) ∧ Only [] w w' := by
  subst hn
  rcases hA with h | ⟨b, off, rfl, hb, hw, hcell⟩
  · have : xs = [] := by simpa [strs] using h
    subst this
    have h : Calls Tryz.prog 88 #[.slice A 0 c, .string ⟨#[32]⟩] w _ := Any.strings_Join_none Tryz.laysJoin extraJ A c ⟨#[32]⟩ w
    exact h.mono fun e w' ⟨h1, h2⟩ => ⟨h1, h2 ▸ Only.refl _ _⟩
  · have h : Calls Tryz.prog 88 #[.slice (some ⟨b, off, none⟩) xs.length c, .string ⟨#[32]⟩] w _ := Any.strings_Join Tryz.laysJoin extraJ b off c xs ⟨#[32]⟩ w (fun j x hx => hcell j _ (by rw [strs, List.getElem?_map, hx]; rfl)) (by omega) hN hc hl
    exact h.mono fun e w' ⟨h1, h2⟩ => ⟨h1, Only.of_below h2 []⟩

theorem join_any (A : Option Addr) (n c B : Nat) (xs : List ByteArray) (w : World) (hA : Row w B A (strs xs)) (hn : xs.length = n) (hc : n ≤ c) (hl : (joinW xs).length ≤ 140737488355328) (hN : n ≤ 140737488355328) :
    Calls Tryz.prog 62 #[.slice A n c] w fun e w' => e = .returned (.string ⟨(joinW xs).toArray⟩) ∧ Only [] w w' := by
  have HJ := Lib.hid (sjoin_any A n c B xs w hA hn hc hl hN)
  generalize (⟨(joinW xs).toArray⟩ : ByteArray) = r at *
  clear hA hn hc hl hN
  go_enter Tryz.func62, Tryz.ntmps62
  go_wp2_with fail
  refine (HJ.out).mono ?_
  rintro e w1 ⟨rfl, hO⟩
  have HO := Lib.hid hO
  clear hO
  go_wp2
  go_ret
  exact ⟨rfl, HO.out⟩

end Go.Proofs.YthaeomdpaadilaaGreatDoor

set_option linter.unusedVariables false
set_option linter.unusedSimpArgs false
namespace Go.Proofs.YthaeomdpaadilaaGreatDoor
open Go.Lib hiding intOf

/-- Nothing, or a blank stands last. -/
def EndsB (A : List UInt8) : Prop := A = [] ∨ ∃ A' b, A = A' ++ [b] ∧ blankB b = true
/-- Where a word stands. -/
def WordAt (C : List UInt8) (p : Nat × Nat) : Prop := ∃ A w b rest, C = A ++ (w ++ b :: rest) ∧ A.length = p.1 ∧ A.length + w.length = p.2 ∧ w ≠ [] ∧ (∀ c ∈ w, blankB c = false) ∧ blankB b = true ∧ EndsB A
def FrOf (P : List UInt8) : Option Nat → Prop
  | none => EndsB P
  | some f => ∃ A w, P = A ++ w ∧ A.length = f ∧ w ≠ [] ∧ (∀ c ∈ w, blankB c = false) ∧ EndsB A
theorem spans_are : ∀ (l P : List UInt8) (fr : Option Nat), FrOf P fr →
    (∀ p ∈ spansO l P.length fr, WordAt (P ++ l) p ∧ fr.getD P.length ≤ p.1) ∧ (spansO l P.length fr).Pairwise (fun p q => p.2 < q.1)
  | [], P, fr, _ => ⟨fun p hp => (by cases hp), List.Pairwise.nil⟩
  | b :: l, P, fr, hF => by
    have hPl : (P ++ [b]).length = P.length + 1 := by simp
    have hPe : P ++ b :: l = (P ++ [b]) ++ l := by simp
    by_cases hb : blankB b = true
    · have ih := spans_are l (P ++ [b]) none (.inr ⟨P, b, rfl, hb⟩)
      rw [hPl] at ih
      simp only [Option.getD_none] at ih
      rw [spans_blank _ _ _ _ hb]
      cases fr with
      | none =>
        refine ⟨fun p hp => ?_, ih.2⟩
        have h := ih.1 p hp
        rw [hPe]
        exact ⟨h.1, by have := h.2; simp only [Option.getD_none]; omega⟩
      | some f =>
        obtain ⟨A, w, hPA, hA, hw, hnb, hE⟩ := hF
        refine ⟨fun p hp => ?_, ?_⟩
        · rcases List.mem_append.1 hp with hp | hp
          · simp only [closeW, List.mem_singleton] at hp
            subst hp
            refine ⟨⟨A, w, b, l, ?_, hA, ?_, hw, hnb, hb, hE⟩, Nat.le_refl _⟩
            · rw [hPA, List.append_assoc]
            · rw [hPA, List.length_append]
          · have h := ih.1 p hp
            rw [hPe]
            refine ⟨h.1, ?_⟩
            have h2 := h.2
            have : P.length = A.length + w.length := by rw [hPA, List.length_append]
            simp only [Option.getD_some]
            omega
        · show List.Pairwise _ ((f, P.length) :: _)
          rw [List.pairwise_cons]
          exact ⟨fun q hq => by have := (ih.1 q hq).2; show P.length < q.1; omega, ih.2⟩
    · have hb : blankB b = false := by simpa using hb
      rw [spans_word _ _ _ _ hb]
      have hF2 : FrOf (P ++ [b]) (some (fr.getD P.length)) := by
        cases fr with
        | none => exact ⟨P, [b], rfl, rfl, by simp, fun c hc => by simp at hc; subst hc; exact hb, hF⟩
        | some f =>
          obtain ⟨A, w, hPA, hA, hw, hnb, hE⟩ := hF
          refine ⟨A, w ++ [b], by rw [hPA, List.append_assoc], hA, by simp, fun c hc => ?_, hE⟩
          rcases List.mem_append.1 hc with h | h
          · exact hnb c h
          · simp at h; subst h; exact hb
      have ih := spans_are l (P ++ [b]) _ hF2
      rw [hPl] at ih
      rw [hPe]
      exact ih
theorem spans_sum : ∀ (l : List UInt8) (i : Nat) (fr : Option Nat), fr.getD i ≤ i → ((spansO l i fr).map fun p => p.2 - p.1 + 1).sum ≤ l.length + (i - fr.getD i)
  | [], i, fr, _ => Nat.zero_le _
  | b :: l, i, fr, h => by
    by_cases hb : blankB b = true
    · have ih := spans_sum l (i + 1) none (Nat.le_refl _)
      rw [spans_blank _ _ _ _ hb]
      simp only [Option.getD_none] at ih
      cases fr with
      | none => simp [closeW]; omega
      | some f =>
        simp only [Option.getD_some] at h
        simp [closeW]
        omega
    · have ih := spans_sum l (i + 1) (some (fr.getD i)) (by simp only [Option.getD_some]; omega)
      rw [spans_word _ _ _ _ (by simpa using hb)]
      simp only [Option.getD_some] at ih
      simp only [List.length_cons]
      omega

/-- The text of a word. -/
def textAt (C : List UInt8) (p : Nat × Nat) : List UInt8 := (C.take p.2).drop p.1
theorem text_of {A w rest : List UInt8} {p : Nat × Nat} (h1 : A.length = p.1) (h2 : A.length + w.length = p.2) : textAt (A ++ (w ++ rest)) p = w := by
  unfold textAt
  rw [← List.append_assoc, List.take_append_of_le_length (by rw [List.length_append]; omega), List.take_of_length_le (by rw [List.length_append]; omega), ← h1, List.drop_left]
structure GoodW (w : List UInt8) : Prop where
  ne : w ≠ []
  nb : ∀ c ∈ w, blankB c = false
  hash : (35 : UInt8) ∉ w
  nl : (10 : UInt8) ∉ w
  valid : validD w = true
theorem blank_lt {b : UInt8} (h : blankB b = true) : b.toNat < 128 := by
  have := (blankB_iff b).1 h
  omega
theorem ends_valid {A rest : List UInt8} (hE : EndsB A) (h : validD (A ++ rest) = true) : validD rest = true := by
  rcases hE with rfl | ⟨A', b, rfl, hb⟩
  · exact h
  · rw [List.append_assoc, List.singleton_append] at h
    have h1 := valid_pre b rest (blank_lt hb) _ _ (Nat.le_refl _) h
    have hrune : IsRune [b] b.toNat := by
      have hbl := blank_lt hb
      refine ⟨⟨b, [], rfl, by omega, fun c hc => (by cases hc)⟩, fun rest => ?_, fun _ => ⟨b, rfl, rfl⟩, fun h => (by omega), fun h => (by omega)⟩
      rw [decodeL_N]
      exact dec_small hbl
    have h2 : validD (A' ++ [b]) = true := by
      rw [valid_app _ h1, show ([b] : List UInt8) = [b] ++ [] from rfl, valid_rune hrune]
      rfl
    have h3 : A' ++ b :: rest = (A' ++ [b]) ++ rest := by simp
    rw [h3, valid_app _ h2] at h
    exact h
theorem good_of {l : List UInt8} (hv : validD l = true) (hn : (10 : UInt8) ∉ l) {p : Nat × Nat} (h : WordAt (codeL l) p) : GoodW (textAt (codeL l) p) := by
  have hcv := code_valid hv
  obtain ⟨A, w, b, rest, hC, h1, h2, hw, hnb, hb, hE⟩ := h
  rw [hC, text_of h1 h2]
  rw [hC] at hcv
  have hw1 := ends_valid hE hcv
  have hin : ∀ c ∈ w, c ∈ aheadL l := fun c hc => by
    have : c ∈ codeL l := by rw [hC]; simp [hc]
    unfold codeL at this
    rcases List.mem_append.1 this with h | h
    · exact h
    · simp at h
      subst h
      have := hnb 32 hc
      exact absurd this (by decide)
  have hsub : ∀ c ∈ aheadL l, c ∈ l := fun c hc => (List.takeWhile_sublist _).mem hc
  have h35 : (35 : UInt8) ∉ aheadL l := by
    rcases ahead_cases l with ⟨h1, h2⟩ | ⟨_, _, h⟩
    · rw [h2]; exact h1
    · exact h
  exact ⟨hw, hnb, fun h => h35 (hin _ h), fun h => hn (hsub _ (hin _ h)), valid_pre b rest (blank_lt hb) _ _ (Nat.le_refl _) hw1⟩

/-- What words joined are read from. -/
def flatW (ws : List (List UInt8)) : List UInt8 := (ws.map (· ++ [32])).flatten
def posOf : List (List UInt8) → Nat → List (Nat × Nat)
  | [], _ => []
  | w :: ws, i => (i, i + w.length) :: posOf ws (i + w.length + 1)
theorem flat_cons (w : List UInt8) (ws : List (List UInt8)) : flatW (w :: ws) = w ++ 32 :: flatW ws := by simp [flatW]
theorem spans_flat : ∀ (ws : List (List UInt8)) (i : Nat), (∀ w ∈ ws, GoodW w) → spansO (flatW ws) i none = posOf ws i
  | [], i, _ => rfl
  | w :: ws, i, h => by
    have hw := h w (List.mem_cons_self ..)
    rw [flat_cons, spans_skip _ _ _ _ hw.ne hw.nb, spans_blank _ _ _ _ (by decide)]
    rw [spans_flat ws _ (fun x hx => h x (List.mem_cons_of_mem _ hx))]
    rfl
theorem pos_texts : ∀ (ws : List (List UInt8)) (P : List UInt8), (posOf ws P.length).map (textAt (P ++ flatW ws)) = ws
  | [], P => rfl
  | w :: ws, P => by
    have ih := pos_texts ws (P ++ (w ++ [32]))
    have e1 : (P ++ (w ++ [32])).length = P.length + w.length + 1 := by simp [Nat.add_assoc]
    have e2 : P ++ (w ++ [32]) ++ flatW ws = P ++ flatW (w :: ws) := by rw [flat_cons]; simp
    rw [e1, e2] at ih
    rw [posOf, List.map_cons, ih, flat_cons, text_of rfl rfl]
theorem join_flat : ∀ (ws : List (List UInt8)), ws ≠ [] → Lib.join ws [32] ++ [32] = flatW ws
  | [w], _ => by
    rw [Lib.join_one, flat_cons]
    rfl
  | w :: v :: ws, _ => by
    have ih := join_flat (v :: ws) (by simp)
    rw [flat_cons, ← ih, join_cons]
    have h2 := join_cons v ws [32]
    rw [h2]
    simp [joinTail, List.append_assoc]
theorem not_flat {x : UInt8} (hx : x ≠ 32) : ∀ (ws : List (List UInt8)), (∀ w ∈ ws, x ∉ w) → x ∉ flatW ws
  | [], _ => by simp [flatW]
  | w :: ws, h => by
    have h1 := h w (List.mem_cons_self ..)
    have ih := not_flat hx ws (fun y hy => h y (List.mem_cons_of_mem _ hy))
    rw [flat_cons]
    simp [h1, ih, hx]
theorem flat_valid : ∀ (ws : List (List UInt8)), (∀ w ∈ ws, GoodW w) → validD (flatW ws) = true
  | [], _ => rfl
  | w :: ws, h => by
    have ih := flat_valid ws (fun y hy => h y (List.mem_cons_of_mem _ hy))
    rw [flat_cons, show w ++ 32 :: flatW ws = (w ++ [32]) ++ flatW ws by simp]
    rw [valid_app _ (by rw [valid_app _ (h w (List.mem_cons_self ..)).valid]; rfl)]
    exact ih
/-- Words joined and parted again. -/
theorem words_join (ws : List (List UInt8)) (h : ∀ w ∈ ws, GoodW w) :
    badL (Lib.join ws [32]) = false ∧ (wordsOf (Lib.join ws [32])).map (textAt (codeL (Lib.join ws [32]))) = ws ∧ aheadL (Lib.join ws [32]) = Lib.join ws [32] := by
  by_cases hne : ws = []
  · subst hne
    exact ⟨by kernel_rfl, by kernel_rfl, by kernel_rfl⟩
  · have hj := join_flat ws hne
    have h35 : (35 : UInt8) ∉ Lib.join ws [32] := fun hm => not_flat (x := 35) (by decide) ws (fun w hw => (h w hw).hash) (by rw [← hj]; simp [hm])
    have h10 : (10 : UInt8) ∉ Lib.join ws [32] := fun hm => not_flat (x := 10) (by decide) ws (fun w hw => (h w hw).nl) (by rw [← hj]; simp [hm])
    have hv : validD (Lib.join ws [32]) = true := valid_pre 32 [] (by decide) _ _ (Nat.le_refl _) (by rw [hj]; exact flat_valid ws h)
    have ha : aheadL (Lib.join ws [32]) = Lib.join ws [32] := by
      rcases ahead_cases (Lib.join ws [32]) with ⟨-, h2⟩ | ⟨rest, h2, -⟩
      · exact h2
      · exact absurd (by rw [h2]; simp) h35
    have hc : codeL (Lib.join ws [32]) = flatW ws := by
      unfold codeL
      rw [ha, hj]
    refine ⟨?_, ?_, ha⟩
    · unfold badL
      rw [hv]
      simpa using h10
    · unfold wordsOf
      rw [hc, spans_flat ws 0 h]
      exact pos_texts ws []

/-- The words of a text, one by one: what they say in bytes. -/
theorem text_code (s : ByteArray) (p : Nat × Nat) (h : p.2 ≤ (aheadL (by_ s)).length) : by_ (s.extract p.1 p.2) = textAt (codeL (by_ s)) p := by
  rw [by_extract]
  unfold textAt
  rw [code_take _ _ h]
theorem wordAt_le {l : List UInt8} {p : Nat × Nat} (h : WordAt (codeL l) p) : p.1 < p.2 ∧ p.2 ≤ (aheadL l).length := by
  obtain ⟨A, w, b, rest, hC, h1, h2, hw, -⟩ := h
  have := congrArg List.length hC
  rw [code_len] at this
  simp only [List.length_append, List.length_cons] at this
  have := List.length_pos_iff.2 hw
  omega
theorem words_at (l : List UInt8) : (∀ p ∈ wordsOf l, WordAt (codeL l) p) ∧ (wordsOf l).Pairwise (fun p q => p.2 < q.1) := by
  have h := spans_are (codeL l) [] none (.inl rfl)
  exact ⟨fun p hp => (h.1 p hp).1, h.2⟩
theorem leads_blank {l : List UInt8} {a b : Nat} {c : UInt8} (hab : a ≤ b) (hc : l[b]? = some c) (hc2 : c.toNat / 64 ≠ 2) : leads (l.take a) < leads (l.take (b + 1)) := by
  have h1 : l.take (b + 1) = l.take b ++ [c] := by rw [List.take_add_one, hc]; rfl
  have h2 : l.take b = l.take a ++ (l.drop a).take (b - a) := by
    rw [← List.take_add]
    congr 1
    omega
  rw [h1, leads_app, h2, leads_app]
  have : leads [c] = 1 := by
    unfold leads
    rw [List.countP_cons_of_pos (by simpa using hc2)]
    rfl
  omega
theorem leads_mono (l : List UInt8) {a b : Nat} (h : a ≤ b) : leads (l.take a) ≤ leads (l.take b) := by
  have h2 : l.take b = l.take a ++ (l.drop a).take (b - a) := by
    rw [← List.take_add]
    congr 1
    omega
  rw [h2, leads_app]
  omega
/-- Where words stand, they rise. -/
theorem leads_rise (l : List UInt8) {p q : Nat × Nat} (hp : WordAt (codeL l) p) (hq : WordAt (codeL l) q) (h : p.2 < q.1) : leads (l.take p.1) < leads (l.take q.1) := by
  have hl := wordAt_le hp
  have hl2 := wordAt_le hq
  obtain ⟨A, w, b, rest, hC, h1, h2, hw, -, hb, -⟩ := hp
  have hat : l[p.2]? = some b := by
    have e1 : (codeL l)[p.2]? = some b := by
      rw [hC, ← List.append_assoc, List.getElem?_append_right (by rw [List.length_append]; omega), List.length_append, h2, Nat.sub_self]
      rfl
    unfold codeL at e1
    rw [List.getElem?_append_left (by omega)] at e1
    have e2 := ahead_take l
    rw [← e2, List.getElem?_take_of_lt (by omega)] at e1
    exact e1
  have h3 := leads_blank (a := p.1) (b := p.2) (by omega) hat (by have := (blankB_iff b).1 hb; omega)
  exact Nat.lt_of_lt_of_le h3 (leads_mono l (by omega))

/-- The words' texts. -/
def textsOf (s : ByteArray) : List ByteArray := (wordsOf (by_ s)).map fun p => s.extract p.1 p.2
theorem texts_by (s : ByteArray) : (textsOf s).map by_ = (wordsOf (by_ s)).map (textAt (codeL (by_ s))) := by
  unfold textsOf
  rw [List.map_map]
  exact List.map_congr_left fun p hp => text_code s p (wordAt_le ((words_at (by_ s)).1 p hp)).2
theorem texts_good (s : ByteArray) (hb : badL (by_ s) = false) : ∀ w ∈ (textsOf s).map by_, GoodW w := by
  unfold badL at hb
  simp only [Bool.or_eq_false_iff, Bool.not_eq_false'] at hb
  rw [texts_by]
  intro w hw
  obtain ⟨p, hp, rfl⟩ := List.mem_map.1 hw
  exact good_of hb.1 (by simpa using hb.2) ((words_at (by_ s)).1 p hp)
theorem texts_inj : ∀ {xs ys : List ByteArray}, xs.map by_ = ys.map by_ → xs = ys
  | [], [], _ => rfl
  | [], _ :: _, h => by cases h
  | _ :: _, [], h => by cases h
  | x :: xs, y :: ys, h => by
    simp only [List.map_cons, List.cons.injEq] at h
    rw [by_inj h.1, texts_inj h.2]
theorem texts_again (s : ByteArray) (hb : badL (by_ s) = false) (T : ByteArray) (hT : by_ T = joinW (textsOf s)) : badL (by_ T) = false ∧ textsOf T = textsOf s := by
  have h := words_join _ (texts_good s hb)
  rw [show Lib.join ((textsOf s).map by_) [32] = by_ T from hT.symm] at h
  refine ⟨h.1, ?_⟩
  have h2 := texts_by T
  rw [h.2.1] at h2
  exact texts_inj h2
theorem joinW_sum : ∀ (ws : List ByteArray), (joinW ws).length ≤ (ws.map fun w => w.size + 1).sum
  | [] => Nat.zero_le _
  | w :: ws => by
    have h := join_flat ((w :: ws).map by_) (by simp)
    have h2 := congrArg List.length h
    rw [List.length_append] at h2
    have h3 : ∀ l : List ByteArray, (flatW (l.map by_)).length = (l.map fun w => w.size + 1).sum := by
      intro l
      induction l with
      | nil => rfl
      | cons y l ih =>
        rw [List.map_cons, flat_cons, List.length_append, List.length_cons, ih, List.map_cons, List.sum_cons, by_length]
        omega
    rw [h3] at h2
    unfold joinW
    simp only [List.length_singleton] at h2
    omega
theorem texts_len (s : ByteArray) : (joinW (textsOf s)).length ≤ s.size + 1 := by
  refine Nat.le_trans (joinW_sum _) ?_
  have h := spans_sum (codeL (by_ s)) 0 none (Nat.le_refl _)
  have e : (textsOf s).map (fun w => w.size + 1) = (wordsOf (by_ s)).map (fun p => p.2 - p.1 + 1) := by
    unfold textsOf
    rw [List.map_map]
    refine List.map_congr_left fun p hp => ?_
    have h1 := wordAt_le ((words_at (by_ s)).1 p hp)
    have h2 := ahead_len (by_ s)
    rw [by_length] at h2
    show (s.extract p.1 p.2).size + 1 = _
    rw [ByteArray.size_extract]
    omega
  rw [e]
  unfold wordsOf
  have h2 := ahead_len (by_ s)
  rw [by_length] at h2
  rw [code_len] at h
  simp only [Option.getD_none] at h
  omega
/-- What the laws read of two words that follow each other. -/
theorem words_rise (s : ByteArray) (k : Nat) (p q : Nat × Nat) (hp : (wordsOf (by_ s))[k]? = some p) (hq : (wordsOf (by_ s))[k + 1]? = some q) : leads ((by_ s).take p.1) < leads ((by_ s).take q.1) := by
  have h := words_at (by_ s)
  obtain ⟨h1, e1⟩ := List.getElem?_eq_some_iff.1 hp
  obtain ⟨h2, e2⟩ := List.getElem?_eq_some_iff.1 hq
  have hr := List.pairwise_iff_getElem.1 h.2 k (k + 1) h1 h2 (by omega)
  rw [e1, e2] at hr
  exact leads_rise _ (h.1 p (List.mem_of_getElem? hp)) (h.1 q (List.mem_of_getElem? hq)) hr

end Go.Proofs.YthaeomdpaadilaaGreatDoor
