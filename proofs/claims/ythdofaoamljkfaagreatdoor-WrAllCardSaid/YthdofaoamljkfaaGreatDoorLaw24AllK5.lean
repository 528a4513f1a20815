/- Parts. -/
import Derived.Test.YthdofaoamljkfaaGreatDoorLaw24AllK4
import Derived.DeepKeys4
import Derived.Lib.ValidLaws
set_option maxRecDepth 10000
set_option maxHeartbeats 16000000
set_option linter.unusedVariables false
set_option linter.unusedSimpArgs false
namespace Go.Proofs.YthdofaoamljkfaaGreatDoor
open Go.RowKit
abbrev V2 := Int × Int
def agV (v : V2) : Value := .agg #[.int .i64 v.1, .int .i64 v.2]
def VWf (v : V2) : Prop := (Lit.int .i64 v.1).wf = true ∧ (Lit.int .i64 v.2).wf = true
def kV (v : V2) : Lit := .string (keyBytes [.int .i64 v.1, .int .i64 v.2])
theorem val_row : (68 : TypeId) < Tryz.prog.types.size := of_decide_eq_true (by kernel_rfl)
theorem val_wide : (match Tryz.prog.underlying 68 with | some (.array _ _) | some (.struct _) => true | _ => false) = true := by rw [Tryz.underlying68]
theorem val_cells : Tryz.prog.cellsOf 68 = 2 := by kernel_rfl
theorem val_keyType : Tryz.prog.keyType 68 = true := by kernel_rfl
theorem val_one : Tryz.prog.cellsOf 3 = 1 ∧ Tryz.prog.cellsOf 2 = 1 := ⟨by kernel_rfl, by kernel_rfl⟩
theorem succ_of_lt {a b : Nat} (h : a < b) : ∃ m, b = m + 1 := ⟨b - 1, by omega⟩
theorem types_succ : ∃ m, Tryz.prog.types.size = m + 1 := succ_of_lt val_row
set_option maxRecDepth 100000 in
theorem law_val : Go.Maps.Keyed Tryz.prog 68 := Go.Maps.Keyed.of_law (deep_law_laid laidOut (m := 2) (by omega) val_row (by kernel_rfl) val_wide)
theorem key_val {v : V2} (h : VWf v) : keyOf Tryz.prog 68 (agV v) = some (kV v) := by
 obtain ⟨m, hm⟩ := types_succ;unfold keyOf agV kV;rw [Tryz.underlying68];dsimp only;rw [if_pos (by simp [val_keyType, Value.formed, Tryz.underlying68, val_cells]), hm];unfold Program.keyLits;rw [Tryz.underlying68];dsimp only;rw [if_pos (by rw [val_cells]; exact ⟨rfl, by simp⟩)];simp [val_one.1, val_one.2, Program.keyLits, Tryz.underlying3, Tryz.underlying2, h.1, h.2, Value.cells]
theorem kV_inj {u v : V2} (hu : VWf u) (hv : VWf v) (h : kV u = kV v) : u = v := by
 have := law_val.inj (key_val hu) (by rw [h]; exact key_val hv);unfold agV at this;simp at this;exact Prod.ext this.1 this.2
theorem kV_lit (v : V2) : WideAt.IsKeyLit (kV v) := by unfold kV; trivial
theorem kV_same {u v : V2} (hu : VWf u) (hv : VWf v) : (kV u).sameKey (kV v) = decide (u = v) := by
 by_cases h : u = v
 ·subst h;rw [decide_eq_true rfl];exact WideAt.sameKey_self (kV_lit u)
 ·rw [decide_eq_false h];exact Maps.sameKey_ne (fun e => h (kV_inj hu hv e))
def HasV (D : DataW Unit) (vs : List V2) : Prop := ∀ v, VWf v → (Maps.has D (kV v) = true ↔ v ∈ vs)
theorem HasV.nil : HasV (.map []) [] := fun v _ => by simp [Maps.has]
theorem HasV.put {D : DataW Unit} {vs : List V2} (h : HasV D vs) (hD : Maps.IsMap D) {u : V2} (hu : VWf u) (d : DataW Unit) : HasV (D.put (kV u) d) (vs ++ [u]) := fun v hv => by
 by_cases e : v = u
 ·subst e;simp [Maps.has_put_same hD (kV_lit v)]
 ·rw [Maps.has_put_other (fun q => e (kV_inj hv hu q)), h v hv];simp [e]
def MetV (D : DataW Unit) (left : Lit → Bool) (zs : List V2) : Prop := (∀ z ∈ zs, VWf z) ∧ ∀ v, VWf v → (v ∈ zs ↔ (Maps.has D (kV v) = true ∧ left (kV v) = false))
theorem MetV.start (D : DataW Unit) : MetV D (Maps.has D) [] := ⟨by simp, fun v hv => by cases Maps.has D (kV v) <;> simp⟩
theorem MetV.step {D : DataW Unit} {left : Lit → Bool} {zs : List V2} (h : MetV D left zs) {u : V2} (hu : VWf u) (hat : Maps.has D (kV u) = true) : MetV D (fun z => left z && !z.sameKey (kV u)) (zs ++ [u]) := by
 refine ⟨fun z hz => ?_, fun v hv => ?_⟩
 ·rcases List.mem_append.1 hz with hz | hz
  ·exact h.1 z hz
  ·simp at hz;subst hz;exact hu
 ·show _ ↔ (_ ∧ (left (kV v) && !(kV v).sameKey (kV u)) = false)
  rw [List.mem_append, h.2 v hv, kV_same hv hu]
  by_cases e : v = u
  ·subst e;simp [hat]
  ·simp [e]
theorem MetV.all {D : DataW Unit} {left : Lit → Bool} {zs vs : List V2} (h : MetV D left zs) (hD : HasV D vs) (hvs : ∀ v ∈ vs, VWf v) (hl : ∀ kl, left kl = false) : sortV zs = sortV vs := by
 refine sortV_unique (sortV_vals zs).1.1 fun y => ?_;rw [(sortV_vals zs).2]
 constructor
 ·rintro ⟨h1, h2⟩;exact ⟨(hD y (h.1 y h1)).1 ((h.2 y (h.1 y h1)).1 h1).1, h2⟩
 ·rintro ⟨h1, h2⟩;exact ⟨(h.2 y (hvs y h1)).2 ⟨(hD y (hvs y h1)).2 h1, hl _⟩, h2⟩
end Go.Proofs.YthdofaoamljkfaaGreatDoor
namespace Go.Proofs.YthdofaoamljkfaaGreatDoor
def hitO (key : Int) (o : Op4) : Bool := o.wr && decide (o.key = key)
def leftW (key : Int) (l : List Op4) : Option (Int × Int) := l.foldl (fun acc o => if hitO key o = true then some (o.vk, o.vn) else acc) none
def leftV (key : Int) (l : List Op4) : Int × Int := (leftW key l).getD (0, 0)
theorem leftW_snoc (key : Int) (l : List Op4) (o : Op4) : leftW key (l ++ [o]) = if hitO key o = true then some (o.vk, o.vn) else leftW key l := by
 unfold leftW;rw [List.foldl_append]
 rfl
theorem leftW_take {key : Int} {l : List Op4} {i : Nat} {o : Op4} (h : l[i]? = some o) : leftW key (l.take (i + 1)) = if hitO key o = true then some (o.vk, o.vn) else leftW key (l.take i) := by
 rw [List.take_add_one, h];exact leftW_snoc key _ o
theorem leftW_app (key : Int) (l : List Op4) : ∀ (m : List Op4), (∀ o ∈ m, hitO key o = false) → leftW key (l ++ m) = leftW key l := by
 intro m
 induction m generalizing l with
 | nil => intro _; rw [List.append_nil]
 | cons o m ih =>
  intro h;rw [show l ++ o :: m = (l ++ [o]) ++ m by simp, ih (l ++ [o]) (fun x hx => h x (List.mem_cons_of_mem _ hx)), leftW_snoc, h o List.mem_cons_self];simp
theorem leftW_miss {key : Int} {l : List Op4} (hr : ∀ x ∈ l, hitO key x = false) : leftW key l = none := by
 have := leftW_app key [] l hr
 rwa [List.nil_append] at this
theorem leftW_some {key : Int} {l : List Op4} {v : Int × Int} (h : leftW key l = some v) : ∃ o ∈ l, hitO key o = true := by
 by_cases hc : ∃ o ∈ l, hitO key o = true
 ·exact hc
 ·rw [leftW_miss (fun x hx => by
   cases hh : hitO key x with
   | false => rfl
   | true => exact absurd ⟨x, hx, hh⟩ hc)] at h
  cases h
def optV (o : Option (Int × Int)) : Value := .agg #[.int .i64 (o.getD (0, 0)).1, .int .i64 (o.getD (0, 0)).2]
def optT (o : Option (Int × Int)) : Value := .tuple #[optV o, .bool o.isSome]
open Go.Lib
def szOf (n b0 b1 b2 b3 : Nat) : Nat := if decodeN n b0 b1 b2 b3 = (65533, 1) then 0 else (decodeN n b0 b1 b2 b3).2
theorem sz_bad {n b0 b1 b2 b3 : Nat} (h : decodeN n b0 b1 b2 b3 = (65533, 1)) : szOf n b0 b1 b2 b3 = 0 := by
 unfold szOf;rw [if_pos h]
theorem sz_two_bad {n b0 b1 b2 b3 : Nat} (h0 : 194 ≤ b0) (h1 : b0 ≤ 223) (h : n < 2 ∨ b1 < 128 ∨ 191 < b1) (hb : b1 < 256) : szOf n b0 b1 b2 b3 = 0 := by
 apply sz_bad
 rcases decodeN_shape n b0 b1 b2 b3 with ⟨c, e⟩ | ⟨c1, c2, c3, cv, e⟩ | ⟨c1, c2, c3, c4, cv, cs, e⟩ | ⟨c1, c2, c3, c4, c5, cv, cw, e⟩ | e
 ·omega
 ·omega
 ·omega
 ·omega
 ·exact e
theorem sz_three_bad {n b0 b1 b2 b3 : Nat} (h0 : 224 ≤ b0) (h1 : b0 ≤ 239) (hb1 : b1 < 256) (hb2 : b2 < 256)
  (h : n < 3 ∨ b1 < 128 ∨ 191 < b1 ∨ b2 < 128 ∨ 191 < b2 ∨ (b0 - 224) * 4096 + (b1 - 128) * 64 + (b2 - 128) < 2048 ∨ (55296 ≤ (b0 - 224) * 4096 + (b1 - 128) * 64 + (b2 - 128) ∧ (b0 - 224) * 4096 + (b1 - 128) * 64 + (b2 - 128) ≤ 57343)) : szOf n b0 b1 b2 b3 = 0 := by
 apply sz_bad
 rcases decodeN_shape n b0 b1 b2 b3 with ⟨c, e⟩ | ⟨c1, c2, c3, cv, e⟩ | ⟨c1, c2, c3, c4, cv, cs, e⟩ | ⟨c1, c2, c3, c4, c5, cv, cw, e⟩ | e
 ·omega
 ·omega
 ·exfalso
  have a1 : b0 % 16 = b0 - 224 := by omega
  have a2 : b1 % 64 = b1 - 128 := by omega
  have a3 : b2 % 64 = b2 - 128 := by omega
  rw [a1, a2, a3] at cv cs;omega
 ·omega
 ·exact e
theorem sz_four_bad {n b0 b1 b2 b3 : Nat} (h0 : 240 ≤ b0) (h1 : b0 ≤ 244) (hb1 : b1 < 256) (hb2 : b2 < 256) (hb3 : b3 < 256)
  (h : n < 4 ∨ b1 < 128 ∨ 191 < b1 ∨ b2 < 128 ∨ 191 < b2 ∨ b3 < 128 ∨ 191 < b3 ∨ (b0 - 240) * 262144 + (b1 - 128) * 4096 + (b2 - 128) * 64 + (b3 - 128) < 65536 ∨ 1114111 < (b0 - 240) * 262144 + (b1 - 128) * 4096 + (b2 - 128) * 64 + (b3 - 128)) : szOf n b0 b1 b2 b3 = 0 := by
 apply sz_bad
 rcases decodeN_shape n b0 b1 b2 b3 with ⟨c, e⟩ | ⟨c1, c2, c3, cv, e⟩ | ⟨c1, c2, c3, c4, cv, cs, e⟩ | ⟨c1, c2, c3, c4, c5, cv, cw, e⟩ | e
 ·omega
 ·omega
 ·omega
 ·exfalso
  have a1 : b0 % 8 = b0 - 240 := by omega
  have a2 : b1 % 64 = b1 - 128 := by omega
  have a3 : b2 % 64 = b2 - 128 := by omega
  have a4 : b3 % 64 = b3 - 128 := by omega
  rw [a1, a2, a3, a4] at cv cw;omega
 ·exact e
theorem dec_at (s : ByteArray) (pos : Nat) : Utf8.decode s pos = decodeN (s.size - pos) ((by_ s).getD pos 0).toNat ((by_ s).getD (pos + 1) 0).toNat ((by_ s).getD (pos + 2) 0).toNat ((by_ s).getD (pos + 3) 0).toNat := by
 rw [decode_N, ← by_length]
 rfl
theorem decL_at (s : ByteArray) (pos : Nat) : decodeL ((by_ s).drop pos) = Utf8.decode s pos := by
 rw [decodeL_N, dec_at, List.length_drop, by_length]
 congr 2
 all_goals simp [List.getD_eq_getElem?_getD, List.getElem?_drop]
theorem byte_at (s : ByteArray) (k : Nat) (h : k < s.size) : s[k].toNat = ((by_ s).getD k 0).toNat := by
 have hl : k < (by_ s).length := by rw [by_length]; exact h
 rw [List.getD_eq_getElem?_getD, List.getElem?_eq_getElem hl]
 rfl
theorem byte_lt (s : ByteArray) (k : Nat) : ((by_ s).getD k 0).toNat < 256 := UInt8.toNat_lt _
structure IsRune (m : List UInt8) (r : Nat) : Prop where
 lead : ∃ b cs, m = b :: cs ∧ b.toNat / 64 ≠ 2 ∧ ∀ c ∈ cs, c.toNat / 64 = 2
 dec : ∀ rest, decodeL (m ++ rest) = (r, m.length)
 small : r < 128 → ∃ b : UInt8, m = [b] ∧ b.toNat = r
 big : 128 ≤ r → ∀ b ∈ m, 128 ≤ b.toNat
 good : ¬ (r = 65533 ∧ m.length = 1)
theorem two_of : ∀ {l : List UInt8}, 1 < l.length → ∃ b b1 t, l = b :: b1 :: t
 | b :: b1 :: t, _ => ⟨b, b1, t, rfl⟩
theorem three_of : ∀ {l : List UInt8}, 2 < l.length → ∃ b b1 b2 t, l = b :: b1 :: b2 :: t
 | b :: b1 :: b2 :: t, _ => ⟨b, b1, b2, t, rfl⟩
theorem four_of : ∀ {l : List UInt8}, 3 < l.length → ∃ b b1 b2 b3 t, l = b :: b1 :: b2 :: b3 :: t
 | b :: b1 :: b2 :: b3 :: t, _ => ⟨b, b1, b2, b3, t, rfl⟩
theorem rune_or_bad (l : List UInt8) (hne : l ≠ []) : (decodeL l = (65533, 1) ∧ 128 ≤ (l.getD 0 0).toNat) ∨ ∃ m rest r, l = m ++ rest ∧ IsRune m r := by
 by_cases h0 : (l.getD 0 0).toNat < 128
 ·right
  obtain ⟨b, t, rfl⟩ := List.exists_cons_of_ne_nil hne;have hb : b.toNat < 128 := h0;refine ⟨[b], t, b.toNat, rfl, ⟨b, [], rfl, by omega, fun c hc => by cases hc⟩, fun rest => ?_, fun _ => ⟨b, rfl, rfl⟩, fun h => by omega, fun h => by omega⟩;rw [decodeL_N];exact dec_small hb
 ·rw [decodeL_N];rcases decodeN_shape l.length (l.getD 0 0).toNat (l.getD 1 0).toNat (l.getD 2 0).toNat (l.getD 3 0).toNat with ⟨c, e⟩ | ⟨c1, c2, c3, cv, e⟩ | ⟨c1, c2, c3, c4, cv, cs, e⟩ | ⟨c1, c2, c3, c4, c5, cv, cw, e⟩ | e
  ·exact absurd c h0
  ·right
   clear e;obtain ⟨b, b1, t, rfl⟩ := two_of c2;simp only [List.getD_cons_zero, List.getD_cons_succ] at h0 c1 c3 cv;refine ⟨[b, b1], t, b.toNat % 32 * 64 + b1.toNat % 64, rfl, ⟨b, [b1], rfl, by omega, fun c hc => ?_⟩, fun rest => ?_, fun h => by omega, fun _ c hc => ?_, fun h => by have := h.2; simp at this⟩
   ·simp at hc; subst hc; exact c3
   ·rw [decodeL_N];simp only [List.cons_append, List.nil_append, List.getD_cons_zero, List.getD_cons_succ, List.length_cons];unfold decodeN;rw [if_neg (by omega), if_pos ⟨by omega, by omega, by omega⟩, if_pos (by omega)]
    rfl
   ·simp at hc; rcases hc with rfl | rfl <;> omega
  ·right
   clear e;obtain ⟨b, b1, b2, t, rfl⟩ := three_of c2;simp only [List.getD_cons_zero, List.getD_cons_succ] at h0 c1 c3 c4 cv cs;refine ⟨[b, b1, b2], t, b.toNat % 16 * 4096 + b1.toNat % 64 * 64 + b2.toNat % 64, rfl, ⟨b, [b1, b2], rfl, by omega, fun c hc => ?_⟩, fun rest => ?_, fun h => by omega, fun _ c hc => ?_, fun h => by have := h.2; simp at this⟩
   ·simp at hc; rcases hc with rfl | rfl <;> assumption
   ·rw [decodeL_N];simp only [List.cons_append, List.nil_append, List.getD_cons_zero, List.getD_cons_succ, List.length_cons];unfold decodeN;rw [if_neg (by omega), if_neg (by omega), if_pos ⟨by omega, ⟨by omega, by omega⟩, by omega, by omega⟩, if_pos (by omega)]
    rfl
   ·simp at hc; rcases hc with rfl | rfl | rfl <;> omega
  ·right
   clear e;obtain ⟨b, b1, b2, b3, t, rfl⟩ := four_of c2;simp only [List.getD_cons_zero, List.getD_cons_succ] at h0 c1 c3 c4 c5 cv cw;refine ⟨[b, b1, b2, b3], t, b.toNat % 8 * 262144 + b1.toNat % 64 * 4096 + b2.toNat % 64 * 64 + b3.toNat % 64, rfl, ⟨b, [b1, b2, b3], rfl, by omega, fun c hc => ?_⟩, fun rest => ?_, fun h => by omega, fun _ c hc => ?_, fun h => by have := h.2; simp at this⟩
   ·simp at hc; rcases hc with rfl | rfl | rfl <;> assumption
   ·rw [decodeL_N];simp only [List.cons_append, List.nil_append, List.getD_cons_zero, List.getD_cons_succ, List.length_cons];unfold decodeN;rw [if_neg (by omega), if_neg (by omega), if_neg (by omega), if_pos ⟨by omega, ⟨by omega, by omega⟩, ⟨by omega, by omega⟩, by omega, by omega⟩, if_pos (by omega)]
    rfl
   ·simp at hc; rcases hc with rfl | rfl | rfl | rfl <;> omega
  ·exact .inl ⟨e, by omega⟩
theorem IsRune.len {m : List UInt8} {r : Nat} (h : IsRune m r) : 0 < m.length := by
 obtain ⟨b, cs, rfl, _⟩ := h.lead;simp
theorem IsRune.ne {m : List UInt8} {r : Nat} (h : IsRune m r) : m ≠ [] := fun e => by
 have := h.len;rw [e] at this
 cases this
theorem valid_rune {m : List UInt8} {r : Nat} (h : IsRune m r) (rest : List UInt8) : validD (m ++ rest) = validD rest := by
 have hd := h.dec rest;rw [validD_step _ (fun e => h.ne (List.append_eq_nil_iff.1 e).1), hd];dsimp only;rw [if_neg h.good, List.drop_left]
theorem valid_cases {l : List UInt8} (h : validD l = true) : l = [] ∨ ∃ m rest r, l = m ++ rest ∧ IsRune m r ∧ validD rest = true := by
 by_cases hne : l = []
 ·exact .inl hne
 ·rcases rune_or_bad l hne with ⟨hb, -⟩ | ⟨m, rest, r, rfl, hm⟩
  ·rw [validD_step _ hne, hb, if_pos ⟨rfl, rfl⟩] at h
   cases h
  ·rw [valid_rune hm] at h;exact .inr ⟨m, rest, r, rfl, hm, h⟩
theorem valid_ind {p : List UInt8 → Prop} (h0 : p []) (h1 : ∀ m rest r, IsRune m r → validD rest = true → p rest → p (m ++ rest)) : ∀ (n : Nat) (l : List UInt8), l.length ≤ n → validD l = true → p l
 | n, l, hn, hv => by
  rcases valid_cases hv with rfl | ⟨m, rest, r, rfl, hm, hr⟩
  ·exact h0
  ·have := hm.len;rw [List.length_append] at hn
   cases n with
   | zero => omega
   | succ n => exact h1 m rest r hm hr (valid_ind h0 h1 n rest (by omega) hr)
theorem valid_app {a : List UInt8} (b : List UInt8) (ha : validD a = true) : validD (a ++ b) = validD b := by
 refine valid_ind (p := fun a => validD (a ++ b) = validD b) rfl ?_ a.length a (Nat.le_refl _) ha;intro m rest r hm _ ih;rw [List.append_assoc, valid_rune hm, ih]
theorem valid_pre (x : UInt8) (t : List UInt8) (hx : x.toNat < 128) : ∀ (n : Nat) (a : List UInt8), a.length ≤ n → validD (a ++ x :: t) = true → validD a = true
 | n, a, hn, hv => by
  by_cases ha : a = []
  ·subst ha; rfl
  ·rcases valid_cases hv with h | ⟨m, rest, r, he, hm, hr⟩
   ·simp at h
   ·have hml := hm.len
    by_cases hle : m.length ≤ a.length
    ·obtain ⟨a', rfl⟩ : ∃ a', a = m ++ a' := by
      refine ⟨a.drop m.length, ?_⟩;have h1 := congrArg (List.take m.length) he;rw [List.take_append_of_le_length hle, List.take_left] at h1
      conv => lhs; rw [← List.take_append_drop m.length a, h1]
     rw [List.append_assoc, List.append_cancel_left_eq] at he;rw [valid_rune hm];rw [List.length_append] at hn
     cases n with
     | zero => omega
     | succ n => exact valid_pre x t hx n a' (by omega) (by rw [he]; exact hr)
    ·exfalso
     obtain ⟨b, cs, rfl, -, hc⟩ := hm.lead;have hal : 0 < a.length := List.length_pos_iff.2 ha;have hxm : x ∈ cs := by
      have h1 := congrArg (fun l => l[a.length]?) he;simp only [List.length_cons] at hle;rw [List.getElem?_append_right (Nat.le_refl _), Nat.sub_self, List.getElem?_append_left (by simp; omega)] at h1;obtain ⟨k, hk⟩ : ∃ k, a.length = k + 1 := ⟨a.length - 1, by omega⟩;rw [hk, List.getElem?_cons_succ] at h1;simp at h1;exact List.mem_of_getElem? h1.symm
     have := hc x hxm;omega
def leads (l : List UInt8) : Nat := l.countP fun b => b.toNat / 64 != 2
theorem leads_app (a b : List UInt8) : leads (a ++ b) = leads a + leads b := List.countP_append
theorem leads_rune {m : List UInt8} {r : Nat} (h : IsRune m r) (k : Nat) (hk : 0 < k) : leads (m.take k) = 1 := by
 obtain ⟨b, cs, rfl, hb, hc⟩ := h.lead;obtain ⟨k, rfl⟩ : ∃ j, k = j + 1 := ⟨k - 1, by omega⟩;rw [List.take_succ_cons];unfold leads;rw [List.countP_cons_of_pos (by simpa using hb), List.countP_eq_zero.2];intro c hc';have := hc c (List.mem_of_mem_take hc');simp [this]
theorem leads_one {m : List UInt8} {r : Nat} (h : IsRune m r) : leads m = 1 := by
 have := leads_rune h m.length h.len
 rwa [List.take_length] at this
theorem dec_pos {l : List UInt8} (h : l ≠ []) : 1 ≤ (decodeL l).2 := by
 rcases rune_or_bad l h with ⟨e, -⟩ | ⟨m, rest, r, rfl, hm⟩
 ·rw [e]; exact Nat.le_refl _
 ·rw [hm.dec]; exact hm.len
def runesF : Nat → List UInt8 → List Nat
 | 0, _ => []
 | _ + 1, [] => []
 | f + 1, b :: t => (decodeL (b :: t)).1 :: runesF f ((b :: t).drop (decodeL (b :: t)).2)
theorem runesF_fuel : ∀ (f g : Nat) (l : List UInt8), l.length ≤ f → l.length ≤ g → runesF f l = runesF g l
 | 0, 0, _, _, _ => rfl
 | 0, g + 1, l, h, _ => by
  obtain rfl : l = [] := List.eq_nil_of_length_eq_zero (by omega)
  rfl
 | f + 1, 0, l, _, h => by
  obtain rfl : l = [] := List.eq_nil_of_length_eq_zero (by omega)
  rfl
 | f + 1, g + 1, [], _, _ => rfl
 | f + 1, g + 1, b :: t, h1, h2 => by
  have hp := dec_pos (l := b :: t) (by simp);rw [runesF, runesF, runesF_fuel f g _ (by rw [List.length_drop]; omega) (by rw [List.length_drop]; omega)]
def runesL (l : List UInt8) : List Nat := runesF l.length l
theorem runes_nil : runesL [] = [] := rfl
theorem runes_step {l : List UInt8} (h : l ≠ []) : runesL l = (decodeL l).1 :: runesL (l.drop (decodeL l).2) := by
 cases l with
 | nil => exact absurd rfl h
 | cons b t =>
  have hp := dec_pos (l := b :: t) h;unfold runesL;rw [List.length_cons, runesF, runesF_fuel t.length _ _ (by rw [List.length_drop, List.length_cons]; omega) (Nat.le_refl _)]
theorem runes_rune {m : List UInt8} {r : Nat} (hm : IsRune m r) (rest : List UInt8) : runesL (m ++ rest) = r :: runesL rest := by
 rw [runes_step (by intro h; exact hm.ne (List.append_eq_nil_iff.1 h).1), hm.dec, List.drop_left]
theorem runes_len (l : List UInt8) : (runesL l).length ≤ l.length := by
 have : ∀ (n : Nat) (l : List UInt8), (runesF n l).length ≤ n := by
  intro n
  induction n with
  | zero => intro l; exact Nat.le_refl _
  | succ n ih =>
   intro l
   cases l with
   | nil => exact Nat.zero_le _
   | cons b t => rw [runesF]; simp; exact ih _
 exact this _ _
def lessL : List Nat → List Nat → Bool
 | [], [] => false
 | [], _ :: _ => true
 | _ :: _, [] => false
 | r :: x, q :: y => if r = q then lessL x y else decide (r < q)
theorem less_same (r : Nat) (x y : List Nat) : lessL (r :: x) (r :: y) = lessL x y := by simp [lessL]
theorem less_unlike {r q : Nat} (x y : List Nat) (h : r ≠ q) : lessL (r :: x) (q :: y) = decide (r < q) := by simp [lessL, h]
theorem less_irr : ∀ x : List Nat, lessL x x = false
 | [] => rfl
 | r :: x => by rw [less_same]; exact less_irr x
theorem less_one : ∀ x y : List Nat, x ≠ y → lessL x y = !lessL y x
 | [], [], h => absurd rfl h
 | [], _ :: _, _ => rfl
 | _ :: _, [], _ => rfl
 | r :: x, q :: y, h => by
  by_cases hr : r = q
  ·subst hr;rw [less_same, less_same];exact less_one x y (fun e => h (by rw [e]))
  ·rw [less_unlike _ _ hr, less_unlike _ _ (fun e => hr e.symm)];have : decide (q < r) = !decide (r < q) := by
    by_cases h1 : r < q
    ·simp [h1]; omega
    ·simp [h1]; omega
   rw [this];simp
theorem less_end {x y : List Nat} (h : x = [] ∨ y = []) : lessL x y = decide (x.length < y.length) := by
 rcases h with rfl | rfl
 ·cases y <;> simp [lessL]
 ·cases x <;> simp [lessL]
theorem less_drop (x y : List Nat) (k : Nat) (r q : Nat) (hx : x[k]? = some r) (hy : y[k]? = some q) : lessL (x.drop k) (y.drop k) = if r = q then lessL (x.drop (k + 1)) (y.drop (k + 1)) else decide (r < q) := by
 obtain ⟨h1, rfl⟩ := List.getElem?_eq_some_iff.1 hx;obtain ⟨h2, rfl⟩ := List.getElem?_eq_some_iff.1 hy;rw [List.drop_eq_getElem_cons h1, List.drop_eq_getElem_cons h2, lessL]
def digitR (r : Nat) : Bool := decide (48 ≤ r) && decide (r ≤ 57)
def mayR (r : Nat) : Bool := decide (97 ≤ r) && decide (r ≤ 122) || decide (65 ≤ r) && decide (r ≤ 90) || digitR r || r == 95 || decide (127 < r)
def nameL (rs : List Nat) : Bool := decide (0 < rs.length) && decide (rs.length ≤ 20) && !digitR (rs.headD 0) && rs.all mayR
theorem name_bad1 (pre : List Nat) (r : Nat) (rest : List Nat) (h : mayR r = false) : nameL (pre ++ r :: rest) = false := by
 simp [nameL, h]
theorem name_bad2 (r : Nat) (rest : List Nat) (h : digitR r = true) : nameL (r :: rest) = false := by
 simp [nameL, h]
theorem name_bad3 (pre : List Nat) (r : Nat) (rest : List Nat) (h : pre.length = 20) : nameL (pre ++ r :: rest) = false := by
 have : decide ((pre ++ r :: rest).length ≤ 20) = false := decide_eq_false (by rw [List.length_append, List.length_cons]; omega);simp only [nameL, this, Bool.and_false, Bool.false_and]
def OkPre (pre : List Nat) : Prop := pre.all mayR = true ∧ digitR (pre.headD 0) = false
theorem okPre_nil : OkPre [] := ⟨rfl, by decide⟩
theorem okPre_snoc {pre : List Nat} {r : Nat} (h : OkPre pre) (hr : mayR r = true) (hd : pre = [] → digitR r = false) : OkPre (pre ++ [r]) := by
 refine ⟨by rw [List.all_append, h.1]; simpa using hr, ?_⟩
 cases pre with
 | nil => exact hd rfl
 | cons x t => exact h.2
theorem okPre_name {pre : List Nat} (h : OkPre pre) (hl : pre.length ≤ 20) : nameL pre = decide (0 < pre.length) := by
 unfold nameL;rw [h.1, h.2, decide_eq_true hl];simp
def resvL : List ByteArray := [⟨#[98, 101, 103, 105, 110]⟩, ⟨#[114, 101, 97, 100]⟩, ⟨#[119, 114, 105, 116, 101]⟩, ⟨#[111, 107]⟩, ⟨#[102, 97, 105, 108]⟩, ⟨#[105, 110, 102, 111]⟩, ⟨#[110, 105, 108]⟩]
def reservedL (l : List UInt8) : Bool := (resvL.map by_).contains l
def isName (s : ByteArray) : Bool := validD (by_ s) && !reservedL (by_ s) && nameL (runesL (by_ s))
def encL (rs : List Nat) : List UInt8 := (rs.map fun (r : Nat) => encodeRune (r : Int)).flatten
theorem enc_len : ∀ rs : List Nat, (encL rs).length ≤ 4 * rs.length
 | [] => Nat.zero_le _
 | r :: rs => by
  have ih := enc_len rs;have h : (encodeRune (r : Int)).length ≤ 4 := by
   unfold encodeRune;rw [List.length_map];exact (encodeRuneZ_length _).2
  show (encodeRune (r : Int) ++ encL rs).length ≤ _
  rw [List.length_append, List.length_cons];omega
theorem enc_rune {m : List UInt8} {r : Nat} (hm : IsRune m r) : encodeRune (r : Int) = m := by
 have h := encode_decode m hm.ne (by have := hm.dec []; rw [List.append_nil] at this; rw [this]; exact hm.good);have hd := hm.dec [];rw [List.append_nil] at hd;rw [hd] at h
 rwa [List.take_length] at h
theorem enc_runes {l : List UInt8} (hv : validD l = true) : encL (runesL l) = l := by
 refine valid_ind (p := fun l => encL (runesL l) = l) rfl ?_ l.length l (Nat.le_refl _) hv;intro m rest r hm _ ih;rw [runes_rune hm]
 show encodeRune (r : Int) ++ encL (runesL rest) = _
 rw [enc_rune hm, ih]
theorem runes_inj {a b : List UInt8} (ha : validD a = true) (hb : validD b = true) (h : runesL a = runesL b) : a = b := by
 rw [← enc_runes ha, ← enc_runes hb, h]
end Go.Proofs.YthdofaoamljkfaaGreatDoor
