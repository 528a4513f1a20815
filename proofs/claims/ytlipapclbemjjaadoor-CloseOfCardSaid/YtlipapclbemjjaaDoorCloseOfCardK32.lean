/- The package close: reach. -/
import Derived.Test.YtlipapclbemjjaaDoorCloseOfCardK22
import Derived.Test.YtlipapclbemjjaaDoorCloseOfCardK27
import Derived.Test.YtlipapclbemjjaaDoorCloseOfCardK31
import Derived.Test.YtlipapclbemjjaaDoorCloseOfCardK13
import Derived.Deep.CutBlock
import Derived.Deep.DeepCutAuto
set_option linter.unusedVariables false
set_option linter.unusedSimpArgs false
namespace Go.Proofs.YtlipapclbemjjaaDoor
open Go.RowKit
attribute [local go_sem ↓] Go.wp_at_zero Go.wp_at_succ
/-- Pointers to sets, the rest nil. -/
def setC (n : Nat) (ps : List Nat) : Array Value := ((List.range n).map fun i : Nat => match ps[i]? with | some q => Value.pointer (some ⟨q, 0, none⟩) | none => Value.pointer none).toArray
theorem setC_size (n : Nat) (ps : List Nat) : (setC n ps).size = n := by simp [setC]
theorem setC_at {n i q : Nat} {ps : List Nat} (hi : i < n) (h : ps[i]? = some q) : (setC n ps)[i]? = some (.pointer (some ⟨q, 0, none⟩)) := by simp [setC, hi, h]
theorem setC_snoc {n : Nat} {ps : List Nat} (q : Nat) (h : ps.length < n) : setC n (ps ++ [q]) = (setC n ps).setIfInBounds ps.length (.pointer (some ⟨q, 0, none⟩)) := by
 apply Array.ext_getElem?
 intro j
 rw [Array.getElem?_setIfInBounds]
 by_cases hj : j < n
 ·by_cases hjp : ps.length = j
  ·subst hjp
   rw [if_pos rfl, if_pos (by rw [setC_size]; exact h), setC_at hj (q := q) (by simp)]
  ·rw [if_neg hjp]
   simp only [setC, List.getElem?_toArray, List.getElem?_map, List.getElem?_range hj, Option.map_some]
   rcases Nat.lt_or_ge j ps.length with h1 | h1
   ·rw [List.getElem?_append_left h1]
   ·rw [List.getElem?_append_right h1, List.getElem?_eq_none (show ps.length ≤ j from h1), List.getElem?_eq_none (by simp; omega)]
 ·rw [Array.getElem?_eq_none (by rw [setC_size]; omega)]
  split
  ·omega
  ·rw [Array.getElem?_eq_none (by rw [setC_size]; omega)]
/-- Sets in a row of pointers. -/
structure SetsAt (w : World) (base b n : Nat) (ps : List Nat) (R : List (List Nat)) : Prop where
 blk : Blk w b 44 (setC n ps)
 len : ps.length = R.length
 le : ps.length ≤ n
 set : ∀ (i q : Nat) (ws : List Nat), ps[i]? = some q → R[i]? = some ws → BSet w q ws
 nd : ps.Nodup
 nb : b ∉ ps
 lob : base ≤ b
 lo : ∀ x ∈ ps, base ≤ x
section
variable {w w' : World} {base b n : Nat} {ps : List Nat} {R : List (List Nat)}
theorem SetsAt.only {S : List Nat} (h : SetsAt w base b n ps R) (O : Only S w w') (hS : ∀ i ∈ S, i < base) : SetsAt w' base b n ps R where
 blk := O.blk h.blk (fun hm => by have := hS b hm; have := h.lob; omega)
 len := h.len
 le := h.le
 set := fun i q ws hq hw => (h.set i q ws hq hw).only O (fun hm => by have := hS q hm; have := h.lo q (List.mem_of_getElem? hq); omega)
 nd := h.nd
 nb := h.nb
 lob := h.lob
 lo := h.lo
theorem SetsAt.same (h : SetsAt w base b n ps R) (O : Only [] w w') : SetsAt w' base b n ps R := h.only O (by simp)
/-- A row of other things has grown. -/
theorem SetsAt.beside {bs : Nat} {e : TypeId} {size m : Nat} {v : Value} {xs : List Value} (h : SetsAt w base b n ps R) (hv : w.ownsRow bs e size v m xs) (h1 : e ≠ 44) (h2 : e ≠ 67) (O : Only v.ownBlock.toList w w') : SetsAt w' base b n ps R where
 blk := O.blk h.blk (own_apart hv h.blk h1)
 len := h.len
 le := h.le
 set := fun i q ws hq hw => (h.set i q ws hq hw).only O (own_apart hv (h.set i q ws hq hw).1 h2)
 nd := h.nd
 nb := h.nb
 lob := h.lob
 lo := h.lo
theorem SetsAt.push {q : Nat} {ws : List Nat} (h : SetsAt w base b n ps R) (hq : BSet w q ws) (hn : ps.length < n) (hnew : ∀ x ∈ ps, x ≠ q) (hb : b ≠ q) (hlo : base ≤ q) :
    SetsAt (w.setCell ⟨b, ps.length, none⟩ (.pointer (some ⟨q, 0, none⟩))) base b n (ps ++ [q]) (R ++ [ws]) :=
  have O : Only [b] w (w.setCell ⟨b, ps.length, none⟩ (.pointer (some ⟨q, 0, none⟩))) := (Only.refl [b] w).put (p := ⟨b, ps.length, none⟩) (fun _ => by simp) _
  { blk := by rw [setC_snoc q hn]; exact h.blk.put _ _
    len := by simp [h.len]
    le := by simp; omega
    set := fun i p us hp hu => by
      rcases Nat.lt_or_ge i ps.length with h1 | h1
      · rw [List.getElem?_append_left h1] at hp
        rw [List.getElem?_append_left (by rw [← h.len]; exact h1)] at hu
        exact (h.set i p us hp hu).only O (fun hm => by simp at hm; subst hm; exact h.nb (List.mem_of_getElem? hp))
      · rw [List.getElem?_append_right h1] at hp
        rw [List.getElem?_append_right (by rw [← h.len]; exact h1)] at hu
        have h2 : i - ps.length = 0 := by
          have := (List.getElem?_eq_some_iff.1 hp).1
          simp at this
          omega
        rw [h2] at hp
        rw [show i - R.length = 0 by rw [← h.len]; exact h2] at hu
        simp at hp hu
        subst hp hu
        exact hq.only O (fun hm => by simp at hm; exact hb hm.symm)
    nd := by
      rw [List.nodup_append]
      refine ⟨h.nd, by simp, fun a ha c hc e => ?_⟩
      simp at hc
      exact hnew a ha (e.trans hc)
    nb := fun hm => by
      rcases List.mem_append.1 hm with h1 | h1
      · exact h.nb h1
      · simp at h1; exact hb h1
    lob := h.lob
    lo := fun x hx => by
      rcases List.mem_append.1 hx with h1 | h1
      · exact h.lo x h1
      · simp at h1; omega }
/-- One of the sets has changed. -/
theorem SetsAt.upd {i q : Nat} {us : List Nat} (h : SetsAt w base b n ps R) (hq : ps[i]? = some q) (O : Only [q] w w') (hu : BSet w' q us) : SetsAt w' base b n ps (R.set i us) where
 blk := O.blk h.blk (fun hm => by simp at hm; subst hm; exact h.nb (List.mem_of_getElem? hq))
 len := by simp [h.len]
 le := h.le
 set := fun j p ws hp hw => by
  by_cases hij : i = j
  ·subst hij
   rw [hq] at hp
   obtain rfl := Option.some.inj hp
   have hl := (List.getElem?_eq_some_iff.1 hq).1
   rw [List.getElem?_set, if_pos rfl, if_pos (by rw [← h.len]; exact hl)] at hw
   obtain rfl := Option.some.inj hw
   exact hu
  ·rw [List.getElem?_set, if_neg hij] at hw
   refine (h.set j p ws hp hw).only O (fun hm => ?_)
   simp at hm
   subst hm
   have := List.pairwise_iff_getElem.1 h.nd
   obtain ⟨h1, e1⟩ := List.getElem?_eq_some_iff.1 hq
   obtain ⟨h2, e2⟩ := List.getElem?_eq_some_iff.1 hp
   rcases Nat.lt_or_gt_of_ne hij with h3 | h3
   ·exact this i j h1 h2 h3 (e1.trans e2.symm)
   ·exact this j i h2 h1 h3 (e2.trans e1.symm)
 nd := h.nd
 nb := h.nb
 lob := h.lob
 lo := h.lo
end
/-- Of node i the set has those that ways lead to with nodes ahead of k between (ahead of j those of one more). -/
structure Stage (n : Nat) (M : Nat → Nat → Bool) (k j : Nat) (R : List (List Nat)) : Prop where
 len : R.length = n
 at_ : ∀ (i : Nat) (ws : List Nat), R[i]? = some ws → Fits ws ∧ ∀ m, m < 512 → bitW ws m = if i < j then closed M (k + 1) i m else closed M k i m
theorem Stage.next {n k : Nat} {M : Nat → Nat → Bool} {R : List (List Nat)} (h : Stage n M k n R) : Stage n M (k + 1) 0 R := ⟨h.len, fun i ws hw => by
 obtain ⟨h1, h2⟩ := h.at_ i ws hw
 have hi := (List.getElem?_eq_some_iff.1 hw).1
 exact ⟨h1, fun m hm => by rw [h2 m hm, if_pos (by rw [← h.len]; exact hi), if_neg (by omega)]⟩⟩
theorem Stage.skip {n k j : Nat} {M : Nat → Nat → Bool} {R : List (List Nat)} {ws : List Nat} (h : Stage n M k j R) (hj : R[j]? = some ws) (hk : k < 512) (hb : bitW ws k = false) : Stage n M k (j + 1) R := ⟨h.len, fun i us hu => by
 obtain ⟨h1, h2⟩ := h.at_ i us hu
 refine ⟨h1, fun m hm => ?_⟩
 rw [h2 m hm]
 by_cases hij : i = j
 ·subst hij
  rw [hj] at hu
  obtain rfl := Option.some.inj hu
  have h3 := h2 k hk
  rw [if_neg (by omega), hb] at h3
  rw [if_neg (by omega), if_pos (by omega)]
  show closed M k i m = over (closed M k) k i m
  unfold over
  rw [← h3]
  simp
 ·by_cases h4 : i < j
  ·rw [if_pos h4, if_pos (by omega)]
  ·rw [if_neg h4, if_neg (by omega)]⟩
theorem Stage.join {n k j : Nat} {M : Nat → Nat → Bool} {R : List (List Nat)} {ws vs : List Nat} (h : Stage n M k j R) (hj : R[j]? = some ws) (hv : R[k]? = some vs) (hk : k < 512) (hb : bitW ws k = true) : Stage n M k (j + 1) (R.set j (joinW ws vs)) := ⟨by rw [List.length_set, h.len], fun i us hu => by
 obtain ⟨w1, w2⟩ := h.at_ j ws hj
 obtain ⟨v1, v2⟩ := h.at_ k vs hv
 by_cases hij : i = j
 ·subst hij
  have hl := (List.getElem?_eq_some_iff.1 hj).1
  rw [List.getElem?_set, if_pos rfl, if_pos hl] at hu
  obtain rfl := Option.some.inj hu
  refine ⟨join_fits w1 v1, fun m hm => ?_⟩
  rw [show (if i < i + 1 then closed M (k + 1) i m else closed M k i m) = closed M (k + 1) i m from if_pos (by omega), bit_join w1.1 v1.1, w2 m hm, if_neg (by omega), v2 m hm]
  have h3 := w2 k hk
  rw [if_neg (by omega), hb] at h3
  show _ = over (closed M k) k i m
  unfold over
  rw [← h3]
  by_cases hki : k < i
  ·rw [if_pos hki]
   show (_ || over (closed M k) k k m) = _
   unfold over
   cases closed M k i m <;> cases closed M k k m <;> cases closed M k k k <;> rfl
  ·rw [if_neg hki]
   rfl
 ·rw [List.getElem?_set, if_neg (fun e => hij e.symm)] at hu
  obtain ⟨h1, h2⟩ := h.at_ i us hu
  refine ⟨h1, fun m hm => ?_⟩
  rw [h2 m hm]
  by_cases h4 : i < j
  ·rw [if_pos h4, if_pos (by omega)]
  ·rw [if_neg h4, if_neg (by omega)]⟩
theorem setC_none {n i : Nat} {ps : List Nat} (hi : i < n) (h : ps.length ≤ i) : (setC n ps)[i]? = some (.pointer none) := by simp [setC, hi, List.getElem?_eq_none h]
theorem info_setp2 : (Tryd.prog.info? 44).map (fun i => (i.zero, i.size, i.bytes)) = some (some (.pointer none), 1, 8) := by kernel_rfl
theorem made_sets (n : Nat) : madeCells #[.pointer none] n = setC n [] := by
 apply Array.ext_getElem?
 intro j
 by_cases hj : j < n <;> simp [madeCells, setC, Nat.mod_one, hj]
theorem make_sets (n : Nat) (hn : n ≤ 500) (w : World) : (Instr.makeSlice 41 (.int .i64 (n : Int)) (.int .i64 (n : Int))).run Tryd.prog w = .ok (.slice (some ⟨w.heap.size, 0, none⟩) n n) (w.alloc (.cells (setC n []) 44)) := by
 obtain ⟨i0, hi, hz0, hz1, hz2⟩ := info_parts info_setp2
 have := run_make (P := Tryd.prog) w 41 44 i0 _ Tryd.underlying41 hi hz0 .i64 .i64 (n : Int) (n : Int) (by omega) (by omega) (by rw [hz2]; omega) (by omega)
 rw [hz1] at this
 simp only [Int.toNat_natCast, Nat.mul_one] at this
 rw [← made_sets]
 exact this
theorem SetsAt.made (w : World) (base n : Nat) (hb : base ≤ w.heap.size) : SetsAt (w.alloc (.cells (setC n []) 44)) base w.heap.size n [] [] where
 blk := Blk.made w _ _
 len := rfl
 le := Nat.zero_le _
 set := fun i q ws h => by simp at h
 nd := List.nodup_nil
 nb := by simp
 lob := hb
 lo := fun x h => by cases h
/-- The lists that next tells, of each node. -/
def rowsN (N : Nat → List Int) (k : Nat) : List (List Nat) := (List.range k).map fun i => makeW (N i)
theorem rowsN_succ (N : Nat → List Int) (k : Nat) : rowsN N (k + 1) = rowsN N k ++ [makeW (N k)] := by unfold rowsN; rw [List.range_succ]; simp
theorem rowsN_stage {n : Nat} {N : Nat → List Int} {M : Nat → Nat → Bool} (hN : ∀ i, i < n → ∀ z ∈ N i, 0 ≤ z ∧ z < 500) (hM : ∀ i m : Nat, i < n → m < 512 → decide ((m : Int) ∈ N i) = M i m) : Stage n M 0 0 (rowsN N n) := ⟨by simp [rowsN], fun i ws hw => by
 unfold rowsN at hw
 rw [List.getElem?_map] at hw
 have hi : i < n := by
  rcases Nat.lt_or_ge i n with h | h
  ·exact h
  ·rw [List.getElem?_eq_none (by simp; exact h)] at hw; cases hw
 rw [List.getElem?_range hi] at hw
 simp at hw
 subst hw
 obtain ⟨h1, h2⟩ := make_fits (N i) (hN i hi)
 exact ⟨h1, fun m hm => by rw [h2 m hm, if_neg (by omega), hM i m hi hm]; rfl⟩⟩
set_option maxRecDepth 10000 in
set_option maxHeartbeats 8000000 in
theorem creach_any (n p : Nat) (k : FuncId) (hk : k = 20 ∨ k = 26) (N : Nat → List Int) (M : Nat → Nat → Bool) (w : World) (hn : n ≤ 500)
  (hN : ∀ i, i < n → ∀ z ∈ N i, 0 ≤ z ∧ z < 500) (hl : ∀ i, i < n → (N i).length ≤ 1000) (hM : ∀ i m : Nat, i < n → m < 512 → decide ((m : Int) ∈ N i) = M i m)
  (hcall : ∀ (i : Nat) w', i < n → Only [] w w' → Calls Tryd.prog k #[.pointer (some ⟨p, 0, none⟩), .int .i64 (i : Int)] w' fun e w'' => ∃ v, (e = .returned v ∧ w''.ownsRow w'.heap.size 3 1 v (N i).length ((N i).map (Value.int .i64))) ∧ Only [] w' w'') :
  Calls Tryd.prog 19 #[.int .i64 (n : Int), .func (.func k) #[.pointer (some ⟨p, 0, none⟩)] #[]] w fun e w' => ∃ b ps R, (e = .returned (.slice (some ⟨b, 0, none⟩) n n) ∧ SetsAt w' w.heap.size b n ps R ∧ Stage n M n 0 R) ∧ Only [] w w' := by
 have hmk := fun W => make_sets n hn W
 have HST := Lib.hid (rowsN_stage hN hM)
 have HL := Lib.hid hl
 have HC := Lib.hid hcall
 have HNN := Lib.hid hN
 clear hN hM hl hcall
 go_enter Tryd.func19, Tryd.ntmps19
 go_upto_region 2 with (fail)
 have HS0 := Lib.hid (SetsAt.made w w.heap.size n (Nat.le_refl _))
 have HO0 := Lib.hid ((Only.refl [] w).alloc (.cells (setC n []) 44))
 clear hmk
 generalize (w.alloc (.cells (setC n []) 44)) = w1 at *
 go_wp2_with fail
 generalize hb : w.heap.size = b at *
 go_loopw [14] (fun iv wr => ∃ (i : Nat) (ps : List Nat), iv = .int .i64 i ∧ i ≤ n ∧ ps.length = i ∧ Hid (SetsAt wr b b n ps (rowsN N i)) ∧ Hid (Only [] w wr)) (fun iv _ => n - (intOf iv).toNat)
 case atStart => exact ⟨0, [], rfl, by omega, rfl, HS0, HO0⟩
 case round =>
  obtain ⟨i, ps, rfl, hi, hpl, hS, hO⟩ := hrel
  clear HS0 HO0
  by_cases hlt : i < n
  ·have h01 : (i : Int) < (n : Int) := by omega
   have hi0 : (0 : Int) ≤ (i : Int) := Int.natCast_nonneg _
   have hwi : IntKind.i64.wrap ((i : Int) + 1) = (i : Int) + 1 := IntWalk.i64_in _ (by omega)
   have HCI := Lib.hid (HC.out i wr hlt hO.out)
   have hll := HL.out i hlt
   have HRS := Lib.hid (rowsN_succ N i)
   have HPL := Lib.hid hpl
   clear hpl
   rcases hk with hk | hk
   all_goals
    subst hk
    go_wp2_with fail
    refine (HCI.out).mono ?_
    rintro e w2 ⟨v, ⟨rfl, hv⟩, O2⟩
    obtain ⟨A2, c2, rfl, -, -, -, hRow⟩ := own_row hv
    have HR2 := Lib.hid hRow
    have HO2 := Lib.hid (hO.out.trans O2)
    have HS2 := Lib.hid (hS.out.same O2)
    clear hv hRow O2 HCI
    go_wp2_with fail
    refine (new_any A2 _ c2 (N i) w2 HR2.out rfl (by omega)).mono ?_
    rintro e w3 ⟨rfl, hB3, O3⟩
    have HB3 := Lib.hid hB3
    have HO3 := Lib.hid (HO2.out.trans O3)
    have HS3 := Lib.hid (HS2.out.same O3)
    have HNQ : Hid ((∀ x ∈ ps, x ≠ w2.heap.size) ∧ b ≠ w2.heap.size ∧ b ≤ w2.heap.size) := Lib.hid ⟨fun x hx e => by
     obtain ⟨j, hj⟩ := List.mem_iff_getElem?.1 hx
     have hjl : j < (rowsN N i).length := by rw [← HS2.out.len]; exact (List.getElem?_eq_some_iff.1 hj).1
     have := (HS2.out.set j x _ hj (List.getElem?_eq_getElem hjl)).lt
     omega, by have := HS2.out.blk.lt; omega, by rw [← hb]; exact HO2.out.size⟩
    clear hB3 O3 HS2 HO2 HR2 hS hO
    generalize w2.heap.size = q at *
    have z0 := (HS3.out.blk.at_ i).trans (setC_none (ps := ps) hlt (by rw [HPL.out]; exact Nat.le_refl _))
    have zf := HS3.out.blk.free i
    have zl := HS3.out.blk.lt
    go_wp2
    have HS4 : Hid (SetsAt (w3.setCell ⟨b, i, none⟩ (.pointer (some ⟨q, 0, none⟩))) b b n (ps ++ [q]) (rowsN N (i + 1))) := Lib.hid (by
     rw [HRS.out]
     have := HS3.out.push HB3.out (by rw [HPL.out]; exact hlt) HNQ.out.1 HNQ.out.2.1 HNQ.out.2.2
     rwa [HPL.out] at this)
    have HO4 : Hid (Only [] w (w3.setCell ⟨b, i, none⟩ (.pointer (some ⟨q, 0, none⟩)))) := Lib.hid (HO3.out.put (p := ⟨b, i, none⟩) (fun h9 => by simp at h9; omega) _)
    go_roundw
    case rel => first | exact ⟨i + 1, ps ++ [q], by go_num, by omega, by simp [HPL.out], HS4, HO4⟩ | exact ⟨_, ⟨i + 1, ps ++ [q], by go_num, by omega, by simp [HPL.out], HS4, HO4⟩, rfl⟩
    case measure => simp [intOf]; omega
  ·have hin : n = i := by omega
   subst hin
   have hd : decide ((n : Int) < (n : Int)) = false := by simp
   have HPL := Lib.hid hpl
   clear hpl hk HC HL HNN
   obtain ⟨R0, hR0⟩ : ∃ R0, R0 = rowsN N n := ⟨_, rfl⟩
   rw [← hR0] at hS HST
   clear hR0
   go_wp2_with fail
   go_loopw [27] (fun kv wr => ∃ (k : Nat) (R : List (List Nat)), kv = .int .i64 k ∧ k ≤ n ∧ Hid (SetsAt wr b b n ps R) ∧ Hid (Stage n M k 0 R) ∧ Hid (Only [] w wr)) (fun kv _ => n - (intOf kv).toNat)
   case atStart => exact ⟨0, R0, rfl, by omega, hS, HST, hO⟩
   case round =>
    obtain ⟨k, R, rfl, hk, hS, hT, hO⟩ := hrel
    clear HST
    by_cases hlt : k < n
    ·have h01 : (k : Int) < (n : Int) := by omega
     have hk0 : (0 : Int) ≤ (k : Int) := Int.natCast_nonneg _
     have hwk : IntKind.i64.wrap ((k : Int) + 1) = (k : Int) + 1 := IntWalk.i64_in _ (by omega)
     go_wp2_with fail
     go_loopw [32] (fun jv wr => ∃ (j : Nat) (R : List (List Nat)), jv = .int .i64 j ∧ j ≤ n ∧ Hid (SetsAt wr b b n ps R) ∧ Hid (Stage n M k j R) ∧ Hid (Only [] w wr)) (fun jv _ => n - (intOf jv).toNat)
     case atStart => exact ⟨0, R, rfl, by omega, hS, hT, hO⟩
     case round =>
      clear hS hT hO
      obtain ⟨j, R, rfl, hj, hS, hT, hO⟩ := hrel
      by_cases hlt2 : j < n
      ·have h02 : (j : Int) < (n : Int) := by omega
       have hj0 : (0 : Int) ≤ (j : Int) := Int.natCast_nonneg _
       have hwj : IntKind.i64.wrap ((j : Int) + 1) = (j : Int) + 1 := IntWalk.i64_in _ (by omega)
       obtain ⟨q, hq⟩ : ∃ q, ps[j]? = some q := ⟨_, List.getElem?_eq_getElem (by rw [HPL.out]; exact hlt2)⟩
       obtain ⟨u, hu⟩ : ∃ u, ps[k]? = some u := ⟨_, List.getElem?_eq_getElem (by rw [HPL.out]; exact hlt)⟩
       obtain ⟨ws, hws⟩ : ∃ ws, R[j]? = some ws := ⟨_, List.getElem?_eq_getElem (by rw [hT.out.len]; exact hlt2)⟩
       obtain ⟨vs, hvs⟩ : ∃ vs, R[k]? = some vs := ⟨_, List.getElem?_eq_getElem (by rw [hT.out.len]; exact hlt)⟩
       have HBQ := Lib.hid (hS.out.set j q ws hq hws)
       have HBU := Lib.hid (hS.out.set k u vs hu hvs)
       have zq := (hS.out.blk.at_ j).trans (setC_at hlt2 hq)
       have zl := hS.out.blk.lt
       have zu := (hS.out.blk.at_ k).trans (setC_at hlt hu)
       have HQ := Lib.hid hq
       have HWS := Lib.hid hws
       have HVS := Lib.hid hvs
       have HHB := Lib.hid (hasW_bit ws k (by omega))
       clear hq hu hws hvs
       go_wp2_with fail
       refine (has_any q (k : Int) ws wr HBQ.out).mono ?_
       rintro e w2 ⟨rfl, rfl⟩
       rw [HHB.out]
       cases hbt : bitW ws k with
       | false =>
        have HTS := Lib.hid (hT.out.skip HWS.out (by omega) hbt)
        clear hbt
        go_wp2
        go_roundw
        case rel => first | exact ⟨j + 1, R, by go_num, by omega, hS, HTS, hO⟩ | exact ⟨_, ⟨j + 1, R, by go_num, by omega, hS, HTS, hO⟩, rfl⟩
        case measure => simp [intOf]; omega
       | true =>
        have HTJ := Lib.hid (hT.out.join HWS.out HVS.out (by omega) hbt)
        clear hbt
        go_wp2_with fail
        refine (join_any q u ws vs _ HBQ.out HBU.out).mono ?_
        rintro e w3 ⟨rfl, hB3, O3⟩
        have HS3 := Lib.hid (hS.out.upd HQ.out O3 hB3)
        have HO3 : Hid (Only [] w w3) := Lib.hid (hO.out.step O3 (fun x hx hl => by
         have h9 := hS.out.lo q (List.mem_of_getElem? HQ.out)
         simp at hx
         omega))
        clear hB3 O3
        go_wp2
        go_roundw
        case rel => first | exact ⟨j + 1, _, by go_num, by omega, HS3, HTJ, HO3⟩ | exact ⟨_, ⟨j + 1, _, by go_num, by omega, HS3, HTJ, HO3⟩, rfl⟩
        case measure => simp [intOf]; omega
      ·have hjn : n = j := by omega
       subst hjn
       have hd2 : decide ((n : Int) < (n : Int)) = false := by simp
       have HTN := Lib.hid hT.out.next
       go_wp2
       go_roundw
       case rel => first | exact ⟨k + 1, R, by go_num, by omega, hS, HTN, hO⟩ | exact ⟨_, ⟨k + 1, R, by go_num, by omega, hS, HTN, hO⟩, rfl⟩ | exact ⟨_, _, ⟨k + 1, R, by go_num, by omega, hS, HTN, hO⟩, rfl, rfl⟩
       case measure => simp [intOf]; omega
    ·have hkn : n = k := by omega
     subst hkn
     have hd2 : decide ((n : Int) < (n : Int)) = false := by simp
     go_wp2
     go_ret
     exact ⟨b, ps, R, ⟨rfl, by rw [hb]; exact hS.out, hT.out⟩, hO.out⟩
end Go.Proofs.YtlipapclbemjjaaDoor
