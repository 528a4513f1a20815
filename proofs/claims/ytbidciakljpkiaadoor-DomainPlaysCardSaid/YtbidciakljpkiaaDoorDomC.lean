/- Contracts of the package domain: Drop, Only, Left, Fixed, Open, Begin, Undo. -/
import Derived.Test.YtbidciakljpkiaaDoorDomB
import Derived.Test.YtbidciakljpkiaaDoorIntInfo
set_option linter.unusedVariables false
set_option linter.unusedSimpArgs false
namespace Go.Proofs.YtbidciakljpkiaaDoor
open Go.RowKit
attribute [local go_sem ↓] Go.wp_at_zero Go.wp_at_succ

theorem places_of_mk {l : List Bool} (h : mk l ≠ 0) : places l ≠ [] := by
  intro hp
  apply h
  rw [mk_zero]
  intro b hb
  obtain ⟨j, hj⟩ := List.mem_iff_getElem?.1 hb
  cases b with
  | false => rfl
  | true =>
    have : j ∈ places l := mem_places.2 (by simp [List.getD_eq_getElem?_getD, hj])
    rw [hp] at this
    cases this
theorem mk_of_places {l : List Bool} (h : places l ≠ []) : mk l ≠ 0 := by
  intro hm
  apply h
  rw [mk_zero] at hm
  apply List.eq_nil_iff_forall_not_mem.2
  intro j hj
  have h1 := mem_places.1 hj
  rw [List.getD_eq_getElem?_getD] at h1
  cases hg : l[j]? with
  | none => simp [hg] at h1
  | some b =>
    rw [hg] at h1
    simp at h1
    have := hm b (List.mem_of_getElem? hg)
    rw [h1] at this
    cases this

section
variable {w : World} {p q B : Nat} {sz : List Nat} {I : List (List Bool)} {T : List (List (List Bool))} {fp : List Nat}
set_option maxHeartbeats 1000000 in
theorem ddrop_some (h : Dom w p q B sz I T fp) {v k : Nat} {l : List Bool} (hv : I[v]? = some l) (hk : k < l.length) (hp : places l ≠ [k]) :
    Calls Tryd.prog 12 #[.pointer (some ⟨p, 0, none⟩), .int .i64 (v : Int), .int .i64 (k : Int)] w fun e w' => e = .returned (.int .i64 0) ∧ Dom w' p q B sz (I.set v (l.set k false)) T fp ∧ Only fp w w' := by
  have ho := h.ok l (List.mem_of_getElem? hv)
  have HW := Lib.hid (dwrong_in h hv hk)
  have HL := Lib.hid (fun (w' : World) (hh : w'.heap = w.heap) => dleft_low (h.heap hh) hv)
  have hz : mk (l.set k false) ≠ 0 := fun e => hp ((none_left ho.2).1 e)
  have HS := Lib.hid (fun (nq : Nat) => dset_low (h.heap (w' := w.drewN nq) rfl) hv (l' := l.set k false) (by simp) (places_of_mk hz))
  have hb := drop_val (mk l) k (mk_lt60 ho.1) (by have := ho.1; omega)
  rw [but_one l k ho.1 hk] at hb
  obtain ⟨x, hx⟩ : ∃ x, x = mk l := ⟨_, rfl⟩
  obtain ⟨y, hy⟩ : ∃ y, y = mk (l.set k false) := ⟨_, rfl⟩
  rw [← hx, ← hy] at hb
  simp only [← hx] at HL
  simp only [← hy] at HS
  rw [← hy] at hz
  have HB := Lib.hid hb
  have hy0 : ((y : Int) == 0) = false := by simp; omega
  have hk0 : (0 : Int) ≤ (k : Int) := Int.natCast_nonneg _
  have hk1 : (k : Int) < 64 := by have := ho.1; omega
  clear hb hx hy hz hp hv h
  go_enter Tryd.func12, Tryd.ntmps12
  go_wp2_with fail
  refine (HW.out).mono ?_
  rintro e w' ⟨rfl, rfl⟩
  go_wp2_with fail
  go_quiet ((go_at_call 29; exact quiet_drew (HL.out _ rfl)))
  rw [HB.out]
  go_wp2_with fail
  refine (HS.out _).mono ?_
  rintro e w2 ⟨rfl, hD, hO⟩
  go_wp2
  go_ret
  exact ⟨rfl, hD, ((Only.refl _ _).drewN _).trans hO⟩

set_option maxHeartbeats 1000000 in
theorem donly_gone (h : Dom w p q B sz I T fp) {v k : Nat} {l : List Bool} (hv : I[v]? = some l) (hk : k < l.length) (hp : l.getD k false = false) :
    Calls Tryd.prog 14 #[.pointer (some ⟨p, 0, none⟩), .int .i64 (v : Int), .int .i64 (k : Int)] w fun e w' => e = .returned (.int .i64 3) ∧ ∃ d, w.drewN d = w' := by
  have ho := h.ok l (List.mem_of_getElem? hv)
  have HW := Lib.hid (dwrong_in h hv hk)
  have HL := Lib.hid (fun (w' : World) (hh : w'.heap = w.heap) => dleft_low (h.heap hh) hv)
  have hb := only_val (mk l) k (mk_lt60 ho.1) (by have := ho.1; omega)
  rw [and_one l k hk, hp, if_neg (by simp)] at hb
  obtain ⟨x, hx⟩ : ∃ x, x = mk l := ⟨_, rfl⟩
  rw [← hx] at hb
  simp only [← hx] at HL
  have HB := Lib.hid hb
  have hk0 : (0 : Int) ≤ (k : Int) := Int.natCast_nonneg _
  have hk1 : (k : Int) < 64 := by have := ho.1; omega
  clear hb hx hp hv h
  go_enter Tryd.func14, Tryd.ntmps14
  go_wp2_with fail
  refine (HW.out).mono ?_
  rintro e w' ⟨rfl, rfl⟩
  go_wp2_with fail
  go_quiet ((go_at_call 29; exact quiet_drew (HL.out _ rfl)))
  rw [HB.out]
  go_wp2
  go_ret
  exact ⟨rfl, _, rfl⟩

theorem oneOf_places (n k : Nat) (hk : k < n) : places (oneOf n k) = [k] := by
  have hnd := places_nodup (oneOf n k)
  have hm : ∀ j, j ∈ places (oneOf n k) ↔ j = k := fun j => by
    rw [mem_places, oneOf_get]
    constructor
    · intro h; simp at h; exact h.2
    · rintro rfl; simp [hk]
  cases hp : places (oneOf n k) with
  | nil =>
    have := (hm k).2 rfl
    rw [hp] at this
    cases this
  | cons x xs =>
    rw [hp] at hm hnd
    have hx := (hm x).1 (by simp)
    subst hx
    cases xs with
    | nil => rfl
    | cons y ys =>
      have hy := (hm y).1 (by simp)
      subst hy
      simp at hnd

set_option maxHeartbeats 1000000 in
theorem donly_there (h : Dom w p q B sz I T fp) {v k : Nat} {l : List Bool} (hv : I[v]? = some l) (hk : k < l.length) (hp : l.getD k false = true) :
    Calls Tryd.prog 14 #[.pointer (some ⟨p, 0, none⟩), .int .i64 (v : Int), .int .i64 (k : Int)] w fun e w' => e = .returned (.int .i64 0) ∧ Dom w' p q B sz (I.set v (oneOf l.length k)) T fp ∧ Only fp w w' := by
  have ho := h.ok l (List.mem_of_getElem? hv)
  have HW := Lib.hid (dwrong_in h hv hk)
  have HL := Lib.hid (fun (w' : World) (hh : w'.heap = w.heap) => dleft_low (h.heap hh) hv)
  have hpl : places (oneOf l.length k) ≠ [] := by rw [oneOf_places _ _ hk]; simp
  have hz : mk (oneOf l.length k) ≠ 0 := mk_of_places hpl
  have HS := Lib.hid (fun (nq : Nat) => dset_low (h.heap (w' := w.drewN nq) rfl) hv (l' := oneOf l.length k) (oneOf_length _ _) hpl)
  have hb := only_val (mk l) k (mk_lt60 ho.1) (by have := ho.1; omega)
  rw [and_one l k hk, if_pos hp] at hb
  obtain ⟨x, hx⟩ : ∃ x, x = mk l := ⟨_, rfl⟩
  obtain ⟨y, hy⟩ : ∃ y, y = mk (oneOf l.length k) := ⟨_, rfl⟩
  rw [← hx, ← hy] at hb
  simp only [← hx] at HL
  simp only [← hy] at HS
  rw [← hy] at hz
  have HB := Lib.hid hb
  have hy0 : ((y : Int) == 0) = false := by simp; omega
  have hk0 : (0 : Int) ≤ (k : Int) := Int.natCast_nonneg _
  have hk1 : (k : Int) < 64 := by have := ho.1; omega
  clear hb hx hy hz hp hv h hpl
  go_enter Tryd.func14, Tryd.ntmps14
  go_wp2_with fail
  refine (HW.out).mono ?_
  rintro e w' ⟨rfl, rfl⟩
  go_wp2_with fail
  go_quiet ((go_at_call 29; exact quiet_drew (HL.out _ rfl)))
  rw [HB.out]
  go_wp2_with fail
  refine (HS.out _).mono ?_
  rintro e w2 ⟨rfl, hD, hO⟩
  go_wp2
  go_ret
  exact ⟨rfl, hD, ((Only.refl _ _).drewN _).trans hO⟩

/-- The places of what is left, as numbers. -/
def pints (l : List Bool) : List Int := (places l).map fun (b : Nat) => (b : Int)

set_option maxHeartbeats 2000000 in
theorem dleft_in (h : Dom w p q B sz I T fp) {v : Nat} {l : List Bool} (hv : I[v]? = some l) (hT : Tab w) (h00 : 0 < w.heap.size) :
    Calls Tryd.prog 23 #[.pointer (some ⟨p, 0, none⟩), .int .i64 (v : Int)] w fun e w' => ∃ V, (e = .returned V ∧ w'.ownsRow w.heap.size 3 1 V (places l).length ((pints l).map (Value.int .i64))) ∧ Only [] w w' := by
  obtain ⟨i0, hi, hz0, hz1, hz2⟩ := info_parts info_int
  have ho := h.ok l (List.mem_of_getElem? hv)
  have hvl : v < I.length := (List.getElem?_eq_some_iff.1 hv).1
  have HV := Lib.hid (dvar_in h hvl)
  have HL := Lib.hid (dleft_low h hv)
  have HT := Lib.hid hT
  have hx0 := mk_lt60 ho.1
  have hpl := bits_places ho.1
  obtain ⟨x0, hx⟩ : ∃ x, x = mk l := ⟨_, rfl⟩
  rw [← hx] at hx0 hpl
  simp only [← hx] at HL
  have HP := Lib.hid hpl
  have HX := Lib.hid hx0
  clear hT hx h hv hvl hx0 hpl
  go_enter Tryd.func23, Tryd.ntmps23
  go_wp2_with fail
  refine (HV.out).mono ?_
  rintro e w' ⟨rfl, rfl⟩
  go_wp2_with fail
  refine (HL.out).mono ?_
  rintro e w' ⟨rfl, d, rfl⟩
  go_wp2
  go_loopw [5, 6] (fun V x wr => ∃ (y : Nat) (done : List Nat), x = .int .u64 y ∧ y < 18446744073709551616 ∧ bitsOf x0 = done ++ bitsOf y ∧
    wr.ownsRow w.heap.size 3 1 V done.length ((done.map fun (b : Nat) => (b : Int)).map (Value.int .i64)) ∧ Only [] w wr) (fun _ x _ => (intOf x).toNat)
  case atStart => exact ⟨x0, [], rfl, by have := HX.out; omega, rfl, ⟨rfl, .inl ⟨rfl, rfl⟩⟩, (Only.refl _ _).drewN _⟩
  case round =>
    obtain ⟨y, done, rfl, hyb, hb, hown, hO⟩ := hrel
    have HBB := Lib.hid hb
    have hdl : done.length ≤ 64 := by
      have := bitsOf_len x0
      rw [hb, List.length_append] at this
      omega
    have HOWN' := Lib.hid hown
    have HO' := Lib.hid hO
    clear hown hO hb
    by_cases hy : 0 < y
    · have hy0 : ((y : Int) != 0) = true := by simp; omega
      have hyp : 1 ≤ (y : Int) := by omega
      have HST := Lib.hid (bitsOf_step hy hyb)
      have hct : ((Lib.ctz 64 y : Nat) : Int) < 64 := by
        have := (Lib.lowest_bit 64 y (by omega) hyb).2; omega
      have HA := Lib.hid (word_and y hy hyb)
      go_wp2_with fail
      refine (tz_pos y _ hy hyb (HT.out.only h00 HO'.out (by simp))).mono ?_
      rintro e w1 ⟨rfl, rfl⟩
      generalize Lib.ctz 64 y = c at *
      go_wp2_with (at_builtin; refine wpList_append_row _ rfl (.tmp 20) (.tmp 23) _ rfl w.heap.size 3 i0 _ 1 8 Tryd.underlying22 hi hz0 hz1 hz2 rfl (by omega) _ _ _ rfl (own_only HOWN'.out ((Only.refl [] _).alloc _) (by simp)) (wr.heap.size + 1) (some ⟨wr.heap.size, 0, none⟩) 1 1 [.int .i64 (c : Int)] rfl rfl (row_lit wr 3 #[.int .i64 (c : Int)]) (by simp [Value.oneCell']) (by unfold maxLen; omega) (by omega) (by have := HO'.out.size; simp; omega) ?_; intro v2 w2 hown2 hgrow hat)
      have REL : ∃ (y' : Nat) (done' : List Nat), Value.int .u64 (bits .and .u64 (y : Int) ((y : Int) - 1)) = .int .u64 y' ∧ y' < 18446744073709551616 ∧ bitsOf x0 = done' ++ bitsOf y' ∧
          w2.ownsRow w.heap.size 3 1 v2 done'.length ((done'.map fun (b : Nat) => (b : Int)).map (Value.int .i64)) ∧ Only [] w w2 := by
        refine ⟨y &&& (y - 1), done ++ [c], by rw [HA.out], Nat.lt_of_le_of_lt (and_pred_le y) (by omega), by rw [HBB.out, HST.out]; simp, ?_, (HO'.out.alloc _).step (only_grown hgrow) (own_new HOWN'.out)⟩
        have e1 : done.length + 1 = (done ++ [c]).length := by simp
        have e2 : (done.map fun (b : Nat) => (b : Int)).map (Value.int .i64) ++ [.int .i64 (c : Int)] = ((done ++ [c]).map fun (b : Nat) => (b : Int)).map (Value.int .i64) := by simp
        rw [e1, e2] at hown2
        exact hown2
      have HREL := Lib.hid REL
      clear REL hown2
      go_wp2
      go_roundw
      case rel => first | exact HREL.out | ((repeat apply Exists.intro); exact ⟨HREL.out, rfl⟩)
      case measure =>
        have := and_pred_le y
        show (bits .and .u64 (y : Int) ((y : Int) - 1)).toNat < ((y : Nat) : Int).toNat
        rw [HA.out, Int.toNat_natCast, Int.toNat_natCast]
        clear hdl hct
        omega
    · have hy0 : ((y : Int) != 0) = false := by simp; omega
      have hyz : y = 0 := by omega
      go_wp2
      go_ret
      refine ⟨_, ⟨rfl, ?_⟩, HO'.out⟩
      have e : places l = done := by rw [← HP.out, HBB.out, hyz, bitsOf_zero, List.append_nil]
      have := HOWN'.out
      rw [pints, e]
      exact this

theorem dleft_out (h : Dom w p q B sz I T fp) {v : Int} (hv : v < 0 ∨ (I.length : Int) ≤ v) :
    Calls Tryd.prog 23 #[.pointer (some ⟨p, 0, none⟩), .int .i64 v] w fun e w' => e = .returned (.slice none 0 0) ∧ w = w' := by
  have HV := Lib.hid (dvar_arg h hv)
  clear h hv
  go_enter Tryd.func23, Tryd.ntmps23
  go_wp2_with fail
  refine (HV.out).mono ?_
  rintro e w' ⟨rfl, rfl⟩
  go_wp2
  go_ret
  exact ⟨rfl, rfl⟩

/-- Is one alone left; which. -/
def fxB (l : List Bool) : Bool := decide ((places l).length = 1)
def fxV (l : List Bool) : Int := if fxB l = true then (pints l).headD 0 else 0

set_option maxHeartbeats 1000000 in
theorem dfixed_in (h : Dom w p q B sz I T fp) {v : Nat} {l : List Bool} (hv : I[v]? = some l) (hT : Tab w) (h00 : 0 < w.heap.size) :
    Calls Tryd.prog 21 #[.pointer (some ⟨p, 0, none⟩), .int .i64 (v : Int)] w fun e w' => e = .returned (.tuple #[.int .i64 (fxV l), .bool (fxB l)]) ∧ Only [] w w' := by
  have hL := dleft_in h hv hT h00
  have hpl := places_length l
  have h60 := (h.ok l (List.mem_of_getElem? hv)).1
  have hlen : (pints l).length = (places l).length := by rw [pints, List.length_map]
  clear h hv hT
  by_cases h1 : (places l).length = 1
  · have hb1 : fxB l = true := by simp [fxB, h1]
    have hx : (pints l)[0]? = some (fxV l) := by
      unfold fxV
      rw [if_pos hb1]
      cases hp : pints l with
      | nil =>
        rw [hp, h1] at hlen
        cases hlen
      | cons x xs => rfl
    rw [hb1]
    rw [h1] at hL hlen
    generalize fxV l = x at *
    generalize pints l = zs at *
    have HX := Lib.hid hx
    have HN := Lib.hid hlen
    have HL := Lib.hid hL
    clear hx hlen hL hb1 h1 hpl
    go_enter Tryd.func21, Tryd.ntmps21
    go_wp2_with fail
    refine (HL.out).mono ?_
    rintro e w1 ⟨V, ⟨rfl, hown⟩, hO⟩
    obtain ⟨A, c, rfl, hc1, hc2, hl, hrow⟩ := own_row hown
    obtain ⟨b, off, rfl, hb, hb2, hcell⟩ := hrow.open_ (k := 0) (by rw [hl]; omega)
    have hc : w1.cell? ⟨b, off, none⟩ = some (.int .i64 x) := hcell 0 (.int .i64 x) (by rw [List.getElem?_map, HX.out]; rfl)
    have HO := Lib.hid hO
    clear hcell hown hrow hl hO
    go_wp2
    go_ret2
    exact ⟨rfl, HO.out⟩
  · have hb1 : fxB l = false := by simp [fxB, h1]
    have hx : fxV l = 0 := by unfold fxV; rw [hb1]; rfl
    rw [hb1, hx]
    have hd : (((places l).length : Int) == 1) = false := by simp; omega
    generalize (places l).length = n at *
    generalize pints l = zs at *
    have HL := Lib.hid hL
    clear hx hlen hL hb1 h1
    go_enter Tryd.func21, Tryd.ntmps21
    go_wp2_with fail
    refine (HL.out).mono ?_
    rintro e w1 ⟨V, ⟨rfl, hown⟩, hO⟩
    obtain ⟨A, c, rfl, hc1, hc2, hl, hrow⟩ := own_row hown
    have HO := Lib.hid hO
    clear hown hrow hl hO
    go_wp2
    go_ret2
    exact ⟨rfl, HO.out⟩

theorem dfixed_out (h : Dom w p q B sz I T fp) {v : Int} (hv : v < 0 ∨ (I.length : Int) ≤ v) :
    Calls Tryd.prog 21 #[.pointer (some ⟨p, 0, none⟩), .int .i64 v] w fun e w' => e = .returned (.tuple #[.int .i64 0, .bool false]) ∧ w = w' := by
  have HV := Lib.hid (dleft_out h hv)
  clear h hv
  go_enter Tryd.func21, Tryd.ntmps21
  go_wp2_with fail
  refine (HV.out).mono ?_
  rintro e w' ⟨rfl, rfl⟩
  go_wp2
  go_ret2
  exact ⟨rfl, rfl⟩
end

end Go.Proofs.YtbidciakljpkiaaDoor
