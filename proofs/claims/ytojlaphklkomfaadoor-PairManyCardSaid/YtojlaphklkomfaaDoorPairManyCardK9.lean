/- Names: runes of a text, which one is ahead, what a name is; texts turned. -/
import Derived.Test.YtojlaphklkomfaaDoorPairManyCardK8
import Derived.Lib.MapLaws
set_option linter.unusedVariables false
set_option linter.unusedSimpArgs false
namespace Go.Proofs.YtojlaphklkomfaaDoor
open Go.Lib

theorem dec_pos {l : List UInt8} (h : l ≠ []) : 1 ≤ (decodeL l).2 := by
  rcases rune_or_bad l h with ⟨e, -⟩ | ⟨m, rest, r, rfl, hm⟩
  · rw [e]; exact Nat.le_refl _
  · rw [hm.dec]; exact hm.len
def runesF : Nat → List UInt8 → List Nat
  | 0, _ => []
  | _ + 1, [] => []
  | f + 1, b :: t => (decodeL (b :: t)).1 :: runesF f ((b :: t).drop (decodeL (b :: t)).2)
theorem runesF_fuel : ∀ (f g : Nat) (l : List UInt8), l.length ≤ f → l.length ≤ g → runesF f l = runesF g l
  | 0, 0, _, _, _ => rfl
  | 0, g + 1, l, h, _ => by
    obtain rfl : l = [] := List.eq_nil_of_length_eq_zero (by omega)
    rfl
  | f + 1, 0, l, _, h => by
    obtain rfl : l = [] := List.eq_nil_of_length_eq_zero (by omega)
    rfl
  | f + 1, g + 1, [], _, _ => rfl
  | f + 1, g + 1, b :: t, h1, h2 => by
    have hp := dec_pos (l := b :: t) (by simp)
    rw [runesF, runesF, runesF_fuel f g _ (by rw [List.length_drop]; omega) (by rw [List.length_drop]; omega)]
def runesL (l : List UInt8) : List Nat := runesF l.length l
theorem runes_nil : runesL [] = [] := rfl
theorem runes_step {l : List UInt8} (h : l ≠ []) : runesL l = (decodeL l).1 :: runesL (l.drop (decodeL l).2) := by
  cases l with
  | nil => exact absurd rfl h
  | cons b t =>
    have hp := dec_pos (l := b :: t) h
    unfold runesL
    rw [List.length_cons, runesF, runesF_fuel t.length _ _ (by rw [List.length_drop, List.length_cons]; omega) (Nat.le_refl _)]
theorem runes_rune {m : List UInt8} {r : Nat} (hm : IsRune m r) (rest : List UInt8) : runesL (m ++ rest) = r :: runesL rest := by
  rw [runes_step (by intro h; exact hm.ne (List.append_eq_nil_iff.1 h).1), hm.dec, List.drop_left]
theorem runes_len (l : List UInt8) : (runesL l).length ≤ l.length := by
  have : ∀ (n : Nat) (l : List UInt8), (runesF n l).length ≤ n := by
    intro n
    induction n with
    | zero => intro l; exact Nat.le_refl _
    | succ n ih =>
      intro l
      cases l with
      | nil => exact Nat.zero_le _
      | cons b t => rw [runesF]; simp; exact ih _
  exact this _ _
theorem runes_ne {l : List UInt8} (h : l ≠ []) : runesL l ≠ [] := by
  rw [runes_step h]
  simp

def lessL : List Nat → List Nat → Bool
  | [], [] => false
  | [], _ :: _ => true
  | _ :: _, [] => false
  | r :: x, q :: y => if r = q then lessL x y else decide (r < q)
theorem less_same (r : Nat) (x y : List Nat) : lessL (r :: x) (r :: y) = lessL x y := by simp [lessL]
theorem less_unlike {r q : Nat} (x y : List Nat) (h : r ≠ q) : lessL (r :: x) (q :: y) = decide (r < q) := by simp [lessL, h]
theorem less_irr : ∀ x : List Nat, lessL x x = false
  | [] => rfl
  | r :: x => by rw [less_same]; exact less_irr x
theorem less_one : ∀ x y : List Nat, x ≠ y → lessL x y = !lessL y x
  | [], [], h => absurd rfl h
  | [], _ :: _, _ => rfl
  | _ :: _, [], _ => rfl
  | r :: x, q :: y, h => by
    by_cases hr : r = q
    · subst hr
      rw [less_same, less_same]
      exact less_one x y (fun e => h (by rw [e]))
    · rw [less_unlike _ _ hr, less_unlike _ _ (fun e => hr e.symm)]
      have : decide (q < r) = !decide (r < q) := by
        by_cases h1 : r < q
        · simp [h1]; omega
        · simp [h1]; omega
      rw [this]
      simp
theorem less_end {x y : List Nat} (h : x = [] ∨ y = []) : lessL x y = decide (x.length < y.length) := by
  rcases h with rfl | rfl
  · cases y <;> simp [lessL]
  · cases x <;> simp [lessL]
theorem less_drop (x y : List Nat) (k : Nat) (r q : Nat) (hx : x[k]? = some r) (hy : y[k]? = some q) : lessL (x.drop k) (y.drop k) = if r = q then lessL (x.drop (k + 1)) (y.drop (k + 1)) else decide (r < q) := by
  obtain ⟨h1, rfl⟩ := List.getElem?_eq_some_iff.1 hx
  obtain ⟨h2, rfl⟩ := List.getElem?_eq_some_iff.1 hy
  rw [List.drop_eq_getElem_cons h1, List.drop_eq_getElem_cons h2, lessL]

/-- What a name may be made of. -/
def digitR (r : Nat) : Bool := decide (48 ≤ r) && decide (r ≤ 57)
def mayR (r : Nat) : Bool := decide (97 ≤ r) && decide (r ≤ 122) || decide (65 ≤ r) && decide (r ≤ 90) || digitR r || r == 95 || decide (127 < r)
def nameL (rs : List Nat) : Bool := decide (0 < rs.length) && decide (rs.length ≤ 20) && !digitR (rs.headD 0) && rs.all mayR
theorem name_bad1 (pre : List Nat) (r : Nat) (rest : List Nat) (h : mayR r = false) : nameL (pre ++ r :: rest) = false := by
  simp [nameL, h]
theorem name_bad2 (r : Nat) (rest : List Nat) (h : digitR r = true) : nameL (r :: rest) = false := by
  simp [nameL, h]
theorem name_bad3 (pre : List Nat) (r : Nat) (rest : List Nat) (h : pre.length = 20) : nameL (pre ++ r :: rest) = false := by
  have : decide ((pre ++ r :: rest).length ≤ 20) = false := decide_eq_false (by rw [List.length_append, List.length_cons]; omega)
  simp only [nameL, this, Bool.and_false, Bool.false_and]
def OkPre (pre : List Nat) : Prop := pre.all mayR = true ∧ digitR (pre.headD 0) = false
theorem okPre_nil : OkPre [] := ⟨rfl, by decide⟩
theorem okPre_snoc {pre : List Nat} {r : Nat} (h : OkPre pre) (hr : mayR r = true) (hd : pre = [] → digitR r = false) : OkPre (pre ++ [r]) := by
  refine ⟨by rw [List.all_append, h.1]; simpa using hr, ?_⟩
  cases pre with
  | nil => exact hd rfl
  | cons x t => exact h.2
theorem okPre_name {pre : List Nat} (h : OkPre pre) (hl : pre.length ≤ 20) : nameL pre = decide (0 < pre.length) := by
  unfold nameL
  rw [h.1, h.2, decide_eq_true hl]
  simp

def resvL : List ByteArray := [⟨#[98, 101, 103, 105, 110]⟩, ⟨#[114, 101, 97, 100]⟩, ⟨#[119, 114, 105, 116, 101]⟩, ⟨#[111, 107]⟩, ⟨#[102, 97, 105, 108]⟩, ⟨#[105, 110, 102, 111]⟩, ⟨#[110, 105, 108]⟩]
def reservedL (l : List UInt8) : Bool := (resvL.map by_).contains l
def isName (s : ByteArray) : Bool := validD (by_ s) && !reservedL (by_ s) && nameL (runesL (by_ s))

/-- A text made of runes. -/
def encL (rs : List Nat) : List UInt8 := (rs.map fun (r : Nat) => encodeRune (r : Int)).flatten
theorem enc_app (x y : List Nat) : encL (x ++ y) = encL x ++ encL y := by simp [encL]
theorem enc_len : ∀ rs : List Nat, (encL rs).length ≤ 4 * rs.length
  | [] => Nat.zero_le _
  | r :: rs => by
    have ih := enc_len rs
    have h : (encodeRune (r : Int)).length ≤ 4 := by
      unfold encodeRune
      rw [List.length_map]
      exact (encodeRuneZ_length _).2
    show (encodeRune (r : Int) ++ encL rs).length ≤ _
    rw [List.length_append, List.length_cons]
    omega
theorem enc_rune {m : List UInt8} {r : Nat} (hm : IsRune m r) : encodeRune (r : Int) = m := by
  have h := encode_decode m hm.ne (by have := hm.dec []; rw [List.append_nil] at this; rw [this]; exact hm.good)
  have hd := hm.dec []
  rw [List.append_nil] at hd
  rw [hd] at h
  rwa [List.take_length] at h
theorem enc_runes {l : List UInt8} (hv : validD l = true) : encL (runesL l) = l := by
  refine valid_ind (p := fun l => encL (runesL l) = l) rfl ?_ l.length l (Nat.le_refl _) hv
  intro m rest r hm _ ih
  rw [runes_rune hm]
  show encodeRune (r : Int) ++ encL (runesL rest) = _
  rw [enc_rune hm, ih]
theorem runes_inj {a b : List UInt8} (ha : validD a = true) (hb : validD b = true) (h : runesL a = runesL b) : a = b := by
  rw [← enc_runes ha, ← enc_runes hb, h]
/-- Each rune of a valid text is one whose bytes are read back. -/
theorem runes_are {l : List UInt8} (hv : validD l = true) : ∀ r ∈ runesL l, IsRune (encodeRune (r : Int)) r := by
  refine valid_ind (p := fun l => ∀ r ∈ runesL l, IsRune (encodeRune (r : Int)) r) (fun r hr => by cases hr) ?_ l.length l (Nat.le_refl _) hv
  intro m rest r hm _ ih x hx
  rw [runes_rune hm] at hx
  rcases List.mem_cons.1 hx with rfl | hx
  · rw [enc_rune hm]; exact hm
  · exact ih x hx
theorem runes_enc : ∀ rs : List Nat, (∀ r ∈ rs, IsRune (encodeRune (r : Int)) r) → runesL (encL rs) = rs
  | [], _ => rfl
  | r :: rs, h => by
    have h1 := h r (List.mem_cons_self ..)
    show runesL (encodeRune (r : Int) ++ encL rs) = _
    rw [runes_rune h1, runes_enc rs (fun x hx => h x (List.mem_cons_of_mem _ hx))]
def turnedL (l : List UInt8) : List UInt8 := encL (runesL l).reverse
theorem turned_turned {l : List UInt8} (hv : validD l = true) : turnedL (turnedL l) = l := by
  unfold turnedL
  rw [runes_enc _ (fun r hr => runes_are hv r (List.mem_reverse.1 hr)), List.reverse_reverse, enc_runes hv]

end Go.Proofs.YtojlaphklkomfaaDoor
