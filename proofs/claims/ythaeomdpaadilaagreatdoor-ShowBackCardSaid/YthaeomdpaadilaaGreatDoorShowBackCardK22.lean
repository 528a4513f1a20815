/- Contracts of the package log: Print. A history that came in: a struct of three slices, the third of structs that hold a slice of structs. -/
import Derived.Test.YthaeomdpaadilaaGreatDoorShowBackCardK21
import Derived.Deep.QuietTactic
import Derived.BigQuiet
import Derived.Test.YthaeomdpaadilaaGreatDoorShowBackCardK2
import Derived.Lib.SmallJoins
import Derived.ChangeSame
set_option linter.unusedVariables false
set_option linter.unusedSimpArgs false
namespace Go.Proofs.YthaeomdpaadilaaGreatDoor
open Go.RowKit
open Go.Lib hiding intOf
attribute [local go_sem ↓] Go.wp_at_zero Go.wp_at_succ

def okE (x : Ev6) : Bool := evOk x.k x.s x.y x.vk x.vn
def evT (x : Ev6) : ByteArray := evText x.k x.s x.y x.vk x.vn
/-- The text of events, behind some bytes; none, if it is too long. -/
def printOf : List Ev6 → List UInt8 → Option (List UInt8)
  | [], acc => some acc
  | x :: r, acc => if 65536 < acc.length + (evT x).size + 1 then none else printOf r (acc ++ by_ (evT x) ++ [10])
def logPrint (l : List Ev6) : ByteArray × Int :=
  if l.all okE = true then (match printOf l [] with | some t => (⟨t.toArray⟩, 0) | none => (⟨#[]⟩, 6)) else (⟨#[]⟩, 4)
structure EvB (x : Ev6) : Prop where
  s : x.s.size ≤ 2000
  y : x.y.size ≤ 2000
  n1 : -9223372036854775808 ≤ x.vn
  n2 : x.vn ≤ 9223372036854775807

theorem evT_size {x : Ev6} (h : EvB x) : (evT x).size ≤ 5000 := by
  have := evWords_len x.k x.s x.y x.vk x.vn h.n1 h.n2 h.s h.y
  unfold evT evText
  split
  · simpa [ByteArray.size] using this
  · simp [ByteArray.size]

set_option maxRecDepth 100000 in
set_option maxHeartbeats 4000000 in
theorem logprint_any (A : Option Addr) (n c B : Nat) (l : List Ev6) (w : World) (hn : l.length = n) (hnm : n ≤ 1000000) (hz : ∀ x ∈ l, EvB x) (hA : Row w B A (logC l)) (hT : UTabs w) (hV : Verbs w) :
    Calls Tryz.prog 21 #[.slice A n c] w fun e w' => e = .returned (.tuple #[.string (logPrint l).1, .int .i64 (logPrint l).2]) ∧ Only [] w w' := by
  have HMY := Lib.hid (fun (x : Ev6) w' (hx : EvB x) (hO : Only [] w w') => evmay_any x.k x.s x.y x.vk x.vn x.ln w' (by have := hx.s; omega) (by have := hx.y; omega) (hT.only hO) (hV.only hO))
  have HPR := Lib.hid (fun (x : Ev6) w' (hx : EvB x) (hO : Only [] w w') => evprint_any x.k x.s x.y x.vk x.vn x.ln w' hx.s hx.y hx.n1 hx.n2 (hT.only hO) (hV.only hO))
  obtain ⟨r, hr⟩ : ∃ r, r = logPrint l := ⟨_, rfl⟩
  rw [← hr]
  have HR := Lib.hid hr
  have HN := Lib.hid hn
  have HZ := Lib.hid hz
  have HROW := Lib.hid hA
  clear hn hz hA hT hV hr
  go_enter Tryz.func21, Tryz.ntmps21
  go_wp2_with fail
  go_loopw [13] (fun iv wr => ∃ (k : Nat), iv = .int .i64 k ∧ k ≤ n ∧ Hid (∀ j x, j < k → l[j]? = some x → okE x = true) ∧ Hid (Only [] w wr)) (fun iv _ => n - (intOf iv).toNat)
  case atStart => exact ⟨0, rfl, by omega, Lib.hid (fun j x h _ => by omega), Lib.hid (Only.refl [] w)⟩
  case round =>
    obtain ⟨k, rfl, hk, hall, hO⟩ := hrel
    by_cases hlt : k < n
    · have h01 : (k : Int) < (n : Int) := by omega
      have hk0 : (0 : Int) ≤ (k : Int) := Int.natCast_nonneg _
      have hwk : IntKind.i64.wrap ((k : Int) + 1) = (k : Int) + 1 := IntWalk.i64_in _ (by omega)
      obtain ⟨x, hx⟩ : ∃ x, l[k]? = some x := ⟨_, List.getElem?_eq_getElem (by rw [HN.out]; exact hlt)⟩
      obtain ⟨b, off, rfl, -, hbw, h1⟩ := row_ev HROW.out hx
      obtain ⟨a0, a1, a2, a3, a4, a5⟩ := h1.only hO.out hbw (by simp)
      have HM1 := Lib.hid (fun w' hO' => HMY.out x w' (HZ.out x (List.mem_of_getElem? hx)) hO')
      have HX := Lib.hid hx
      obtain ⟨ok, hok⟩ : ∃ v, v = okE x := ⟨_, rfl⟩
      have hok2 : evOk x.k x.s x.y x.vk x.vn = ok := hok.symm
      rw [hok2] at HM1
      have HOK := Lib.hid hok
      obtain ⟨xk, xs, xy, xvk, xvn, xln⟩ := x
      dsimp only at a0 a1 a2 a3 a4 a5 HM1
      have HO1 := Lib.hid (hO.out.alloc (.cells #[.int .i64 xk, .string xs, .string xy, .int .i64 xvk, .int .i64 xvn, .int .i64 xln] 47))
      clear hx h1 hok hok2
      go_wp2_with fail
      refine (HM1.out _ HO1.out).mono ?_
      rintro e w2 ⟨rfl, O2⟩
      have HO2 := Lib.hid (HO1.out.trans O2)
      clear a0 a1 a2 a3 a4 a5 O2
      cases ok with
      | false =>
        obtain rfl : r = (⟨#[]⟩, 4) := by
          rw [HR.out]
          unfold logPrint
          rw [if_neg]
          intro h
          have := List.all_eq_true.1 h _ (List.mem_of_getElem? HX.out)
          rw [← HOK.out] at this
          cases this
        go_wp2
        go_ret2
        exact ⟨rfl, HO2.out⟩
      | true =>
        go_wp2
        go_roundw
        case rel =>
          refine ⟨k + 1, by go_num, by omega, Lib.hid (fun j y h hy => ?_), HO2⟩
          rcases Nat.lt_or_ge j k with h2 | h2
          · exact hall.out j y h2 hy
          · have : j = k := by omega
            subst this
            rw [HX.out] at hy
            obtain rfl := Option.some.inj hy
            exact HOK.out.symm
        case measure => simp [intOf]; omega
    · have hkn : k = n := by omega
      subst hkn
      have hd : decide ((k : Int) < (k : Int)) = false := by simp
      have HALL : Hid (l.all okE = true) := Lib.hid (List.all_eq_true.2 fun x hx => by
        obtain ⟨j, hj⟩ := List.getElem?_of_mem hx
        exact hall.out j x (by rw [← HN.out]; exact (List.getElem?_eq_some_iff.1 hj).1) hj)
      have HRR : Hid (r = match printOf l [] with | some t => (⟨t.toArray⟩, 0) | none => (⟨#[]⟩, 6)) := Lib.hid (by rw [HR.out]; unfold logPrint; rw [if_pos HALL.out])
      obtain ⟨wo, hwo⟩ : ∃ wo : World, wo = wr := ⟨_, rfl⟩
      subst hwo
      have hszo := hO.out.size
      have HOB := Lib.hid (hO.out.alloc (.cells #[.pointer none, .slice none 0 0] 67))
      have HBU := Lib.hid (Lib.fresh_isBuilder 67 5 wo)
      have HB0 := Lib.hid (Blk.made wo 67 #[.pointer none, .slice none 0 0])
      obtain ⟨Bb, hBb⟩ : ∃ g, g = wo.heap.size := ⟨_, rfl⟩
      rw [← hBb] at HBU HB0
      have HBB := Lib.hid hBb
      clear hall HR HALL hlt hO
      go_wp2_with fail
      rw [← hBb]
      clear hBb
      go_loopw [23] (fun iv wr => ∃ (j : Nat) (acc : List UInt8), iv = .int .i64 j ∧ j ≤ k ∧ acc.length ≤ 65536 ∧ Hid (printOf l [] = printOf (l.drop j) acc) ∧ Hid (Lib.IsBuilder 67 5 Bb Bb (Lib.byteCells acc) wr) ∧ Hid (Only [] w wr) ∧ Hid (acc = [] → Blk wr Bb 67 #[.pointer none, .slice none 0 0])) (fun iv _ => k - (intOf iv).toNat)
      case atStart => exact ⟨0, [], rfl, by omega, by simp, Lib.hid rfl, HBU, HOB, Lib.hid (fun _ => HB0.out)⟩
      case round =>
        obtain ⟨j, acc, rfl, hj, hacc, hP, hBU, hO, hNB⟩ := hrel
        have hsz2 := hO.out.size
        by_cases hlt : j < k
        · have h01 : (j : Int) < (k : Int) := by omega
          have hj0 : (0 : Int) ≤ (j : Int) := Int.natCast_nonneg _
          have hwj : IntKind.i64.wrap ((j : Int) + 1) = (j : Int) + 1 := IntWalk.i64_in _ (by omega)
          obtain ⟨x, hx⟩ : ∃ x, l[j]? = some x := ⟨_, List.getElem?_eq_getElem (by rw [HN.out]; exact hlt)⟩
          obtain ⟨b, off, rfl, -, hbw, h1⟩ := row_ev HROW.out hx
          obtain ⟨a0, a1, a2, a3, a4, a5⟩ := h1.only hO.out hbw (by simp)
          have hbx := HZ.out x (List.mem_of_getElem? hx)
          have hts : (evT x).size ≤ 5000 := evT_size hbx
          have HP1 := Lib.hid (fun w' hO' => HPR.out x w' hbx hO')
          have hpo : printOf (l.drop j) acc = if 65536 < acc.length + (evT x).size + 1 then none else printOf (l.drop (j + 1)) (acc ++ by_ (evT x) ++ [10]) := by
            obtain ⟨h1, h2⟩ := List.getElem?_eq_some_iff.1 hx
            rw [List.drop_eq_getElem_cons h1, h2]
            rfl
          have HPO := Lib.hid (hP.out.trans hpo)
          have hte : evText x.k x.s x.y x.vk x.vn = evT x := rfl
          rw [hte] at HP1
          generalize evT x = T at *
          generalize evErr x.k x.s x.y x.vk x.vn = ve at *
          obtain ⟨xk, xs, xy, xvk, xvn, xln⟩ := x
          dsimp only at a0 a1 a2 a3 a4 a5 HP1
          have hO1 := hO.out.alloc (.cells #[.int .i64 xk, .string xs, .string xy, .int .i64 xvk, .int .i64 xvn, .int .i64 xln] 47)
          have HBU1 := Lib.hid (builder_only hBU.out ((Only.refl [] wr).alloc (.cells #[.int .i64 xk, .string xs, .string xy, .int .i64 xvk, .int .i64 xvn, .int .i64 xln] 47)))
          have HO1 := Lib.hid hO1
          clear hx h1 hbx hpo hte hO1
          go_wp2_with fail
          refine (HP1.out _ HO1.out).mono ?_
          rintro e w3 ⟨rfl, O3⟩
          have HBU3 := Lib.hid (builder_only HBU1.out O3)
          have HO3 := Lib.hid (HO1.out.trans O3)
          have hsz3 := HO3.out.size
          have HL := Lib.hid (blen_any Bb Bb _ w3 HBU3.out)
          rw [Lib.byteCells_length] at HL
          have hsB : Bb ≤ w3.heap.size := by
            rcases HBU3.out with h | h
            · exact Nat.le_of_lt h.lt
            · exact Nat.le_of_lt h.lt
          have HWS := Lib.hid (bwrite_any Bb Bb _ T w3 HBU3.out (by rw [Lib.byteCells_length]; omega) hsB)
          have hw1 : IntKind.i64.wrap ((acc.length : Int) + (T.size : Int)) = (acc.length : Int) + (T.size : Int) := IntWalk.i64_in _ (by omega)
          have hw2 : IntKind.i64.wrap ((acc.length : Int) + (T.size : Int) + 1) = (acc.length : Int) + (T.size : Int) + 1 := IntWalk.i64_in _ (by omega)
          clear a0 a1 a2 a3 a4 a5 O3 HBU1 HO1 HP1 hBU
          go_wp2_with fail
          refine (HL.out).mono ?_
          rintro e w4 ⟨rfl, rfl⟩
          by_cases hlong : 65536 < acc.length + T.size + 1
          · have hl1 : (65536 : Int) < (acc.length : Int) + (T.size : Int) + 1 := by omega
            obtain rfl : r = (⟨#[]⟩, 6) := by rw [HRR.out, HPO.out, if_pos hlong]
            clear HRR HPO hlong
            go_wp2
            go_ret2
            exact ⟨rfl, HO3.out⟩
          · have hl1 : decide ((65536 : Int) < (acc.length : Int) + (T.size : Int) + 1) = false := decide_eq_false (by omega)
            have hl2 : decide (65536 < acc.length + T.size + 1) = false := decide_eq_false (by omega)
            have HP2 : Hid (printOf l [] = printOf (l.drop (j + 1)) (acc ++ by_ T ++ [10])) := Lib.hid (by rw [HPO.out, if_neg hlong])
            have hacc2 : (acc ++ by_ T ++ [10]).length ≤ 65536 := by
              rw [List.length_append, List.length_append, by_length]
              simp
              omega
            clear hlong HPO
            go_wp2_with fail
            refine (HWS.out).mono ?_
            rintro e w5 ⟨rfl, hb5, hbl5⟩
            have HO5 := Lib.hid (only_below HO3.out hbl5 (by have := HBB.out; omega))
            have hsz5 := hbl5.size
            have HWB := Lib.hid (bbyte_any Bb Bb _ 10 w5 (.inr hb5) (by rw [List.length_append, Lib.byteCells_length, Lib.strCells_length]; omega) (by omega))
            clear hb5 hbl5 HWS HL
            go_wp2_with fail
            refine (HWB.out).mono ?_
            rintro e w6 ⟨rfl, hb6, hbl6⟩
            have HO6 := Lib.hid (only_below HO5.out hbl6 (by have := HBB.out; omega))
            have HBU6 : Hid (Lib.IsBuilder 67 5 Bb Bb (Lib.byteCells (acc ++ by_ T ++ [10])) w6) := Lib.hid (by
              rw [Lib.byteCells_append, Lib.byteCells_append]
              exact .inr hb6)
            clear hb6 hbl6 HWB
            go_wp2
            go_roundw
            case rel => exact ⟨j + 1, acc ++ by_ T ++ [10], by go_num, by omega, hacc2, HP2, HBU6, HO6, Lib.hid (fun h => by simp at h)⟩
            case measure => simp [intOf]; omega
        · have hjk : j = k := by omega
          subst hjk
          have hd2 : decide ((j : Int) < (j : Int)) = false := by simp
          have hpr : printOf l [] = some acc := by rw [hP.out, List.drop_of_length_le (by rw [HN.out]; exact Nat.le_refl _)]; rfl
          obtain rfl : r = (⟨acc.toArray⟩, 0) := by rw [HRR.out, hpr]
          have HT : Hid (Calls Tryz.prog 39 #[.pointer (some ⟨Bb, 0, none⟩)] wr fun e w' => e = .returned (.string ⟨acc.toArray⟩) ∧ Below Bb wr w') := by
            by_cases h0 : acc = []
            · subst h0
              exact Lib.hid (btext_nil Bb Bb _ wr (hNB.out rfl))
            · exact Lib.hid (btext_any Bb Bb acc wr hBU.out h0)
          clear hpr HRR hP
          go_wp2_with fail
          refine (HT.out).mono ?_
          rintro e w7 ⟨rfl, hbl7⟩
          have HO7 := Lib.hid (only_below hO.out hbl7 (by have := HBB.out; omega))
          clear hbl7
          go_wp2
          go_ret2
          exact ⟨rfl, HO7.out⟩

end Go.Proofs.YthaeomdpaadilaaGreatDoor

set_option linter.unusedVariables false
set_option linter.unusedSimpArgs false
namespace Go.Proofs.YthaeomdpaadilaaGreatDoor
open Go.RowKit Go.ChangeShapes Go.WideShapes Go.ChangeAt Go.Joins Go.Deep

theorem list_ofG {α : Type} {Q : Nat → α → Prop} : ∀ {N : Nat}, (∀ k, k < N → ∃ z, Q k z) → ∃ zs : List α, zs.length = N ∧ ∀ k z, zs[k]? = some z → Q k z
  | 0, _ => ⟨[], rfl, fun k z h => by simp at h⟩
  | N + 1, h => by
    obtain ⟨zs, hl, hz⟩ := list_ofG (N := N) (fun k hk => h k (by omega))
    obtain ⟨z, hq⟩ := h N (by omega)
    refine ⟨zs ++ [z], by simp [hl], fun k y hy => ?_⟩
    rcases Nat.lt_or_ge k zs.length with hk | hk
    · rw [List.getElem?_append_left hk] at hy
      exact hz k y hy
    · rw [List.getElem?_append_right hk] at hy
      have hk0 : k - zs.length = 0 := by
        cases hj : k - zs.length with
        | zero => rfl
        | succ j => rw [hj] at hy; simp at hy
      rw [hk0] at hy
      simp at hy
      subst hy
      have : k = N := by omega
      subst this
      exact hq

section
variable {H : Type} {enc : TypeId × Value → H} {P : Program} {w : World}
/-- A slice whose elements are of sz cells each, each element's cells f of something that is so. -/
theorem row_of {α : Type} (f : α → List Value) (sz : Nat) (hf : ∀ x, (f x).length = sz) (hsz : 0 < sz) (Q : α → Prop) {t e : TypeId} {fuel : Nat} {cs : List Value} {x : DataW H × List MemPlace} (ht : P.underlying t = some (.slice e)) (hC : P.cellsOf e = sz)
    (each : ∀ fuel' cs' x', DataW.trod enc P w 0 (fun _ => true) true fuel' e cs' = some x' → ∃ y : α, Q y ∧ cs' = f y) (h : DataW.trod enc P w 0 (fun _ => true) true fuel t cs = some x) :
    ∃ (A : Option Addr) (n c : Nat) (l : List α), cs = [.slice A n c] ∧ n ≤ c ∧ c ≤ maxLen ∧ l.length = n ∧ (∀ y ∈ l, Q y) ∧ Row w w.heap.size A (l.flatMap f) := by
  rcases open_slice ht h with ⟨hcs, _⟩ | ⟨a, len, cap, m, n, D, Pl, hcs, _, hl, hm, hmm, _, hcell⟩
  · exact ⟨none, 0, 0, [], hcs, Nat.le_refl _, by unfold maxLen; omega, rfl, (fun z hz => by cases hz), .inl rfl⟩
  · simp only [if_true] at hmm
    subst hmm
    have each' : ∀ k, k < len → ∃ y : α, Q y ∧ ∀ i, i < sz → w.cell? (a.add (k * sz + i)) = (f y)[i]? := by
      intro k hk
      obtain ⟨cs', hc, htr⟩ := hcell k (by omega)
      rw [hC] at hc
      obtain ⟨y, hq, hcs'⟩ := each _ _ _ htr
      obtain ⟨_, hcl, hat⟩ := World.cells?_some hc
      refine ⟨y, hq, fun i hi => ?_⟩
      have hk' : a.add (k * sz + i) = (a.add (k * sz)).add i := by rw [Go.Deep.add_add]
      rw [hk', hat i hi, hcs']
    obtain ⟨l, hll, hz⟩ := list_ofG each'
    refine ⟨some a, len, _, l, hcs, hl, hm, hll, fun z hzm => ?_, ?_⟩
    · obtain ⟨k, hk⟩ := List.mem_iff_getElem?.1 hzm
      exact (hz k z hk).1
    · by_cases h0 : len = 0
      · subst h0
        have : l = [] := List.eq_nil_of_length_eq_zero hll
        subst this
        exact .inl rfl
      · obtain ⟨x0, -, hx0⟩ := each' 0 (by omega)
        obtain ⟨u0, hu0⟩ : ∃ u, (f x0)[0]? = some u := ⟨_, List.getElem?_eq_getElem (by rw [hf]; exact hsz)⟩
        have hz0 : w.cell? (a.add 0) = some u0 := by
          have := hx0 0 hsz
          rw [hu0] at this
          simpa using this
        have hA : a.spot = none := by
          unfold World.cell? Addr.add at hz0
          cases hsp : a.spot with
          | none => rfl
          | some s =>
            rw [if_pos rfl] at hz0
            split at hz0
            · simp [hsp] at hz0
            · cases hz0
        obtain ⟨b, off, sp⟩ := a
        simp only at hA
        subst hA
        have hb : b < w.heap.size := World.block_lt_of_cell? w _ (by simpa [Addr.add] using hz0)
        refine .inr ⟨b, off, rfl, hb, Nat.le_refl _, fun t u hu => ?_⟩
        have hlt : t < (l.flatMap f).length := (List.getElem?_eq_some_iff.1 hu).1
        rw [flat_len f sz hf] at hlt
        have hts : t / sz < l.length := (Nat.div_lt_iff_lt_mul hsz).2 hlt
        obtain ⟨x, hx⟩ : ∃ x, l[t / sz]? = some x := ⟨_, List.getElem?_eq_getElem hts⟩
        have g := flat_get f sz hf l (t / sz) x hx (t % sz) (Nat.mod_lt _ hsz)
        have e : t / sz * sz + t % sz = t := by rw [Nat.mul_comm]; exact Nat.div_add_mod t sz
        rw [e, hu] at g
        have h1 := (hz (t / sz) x hx).2 (t % sz) (Nat.mod_lt _ hsz)
        rw [e] at h1
        have e' : (⟨b, off, none⟩ : Addr).add t = ⟨b, off + t, none⟩ := by
          unfold Addr.add
          split
          · rename_i h; subst h; rfl
          · rfl
        rw [e'] at h1
        rw [h1]
        exact g.symm

theorem op_cells {fuel : Nat} {t ti tb tv tj : TypeId} {f0 f1 f2 g0 g1 : Field} {cs : List Value} {x : DataW H × List MemPlace}
    (hs : P.underlying t = some (.struct #[f0, f1, f2])) (hvs : P.underlying tv = some (.struct #[g0, g1])) (hC : P.cellsOf t = 4)
    (hb : P.underlying tb = some .bool) (hi : P.underlying ti = some (.int .i64)) (hj : P.underlying tj = some (.int .i64)) (cb : P.cellsOf tb = 1) (ci : P.cellsOf ti = 1) (cj : P.cellsOf tj = 1) (cv : P.cellsOf tv = 2)
    (e0 : f0.type = tb ∧ f0.offset = 0) (e1 : f1.type = ti ∧ f1.offset = 1) (e2 : f2.type = tv ∧ f2.offset = 2) (q0 : g0.type = ti ∧ g0.offset = 0) (q1 : g1.type = tj ∧ g1.offset = 1)
    (h : DataW.trod enc P w 0 (fun _ => true) true fuel t cs = some x) : ∃ y : Op4, True ∧ cs = y.c := by
  obtain ⟨xs, n, _, rfl, hl, hlen, hf⟩ := DataW.trod_struct hs h
  rw [hC] at hl
  match cs, hl with
  | [c0, c1, c2, c3], _ =>
    have h0 := hf 0 f0 rfl
    have h1 := hf 1 f1 rfl
    have h2 := hf 2 f2 rfl
    rw [e0.1, e0.2, cb] at h0
    rw [e1.1, e1.2, ci] at h1
    rw [e2.1, e2.2, cv] at h2
    match xs, hlen with
    | [y0, y1, y2], _ =>
      obtain ⟨b, a0, -⟩ := DataW.trod_bool hb (by simpa using h0)
      obtain ⟨k, a1, -, wk⟩ := DataW.trod_int hi (by simpa using h1)
      obtain ⟨z0, z1, m, -, -, g3, g4⟩ := trod_struct2 hvs (by simpa using h2)
      rw [q0.1, q0.2, ci] at g3
      rw [q1.1, q1.2, cj] at g4
      obtain ⟨vk, a3, -, wvk⟩ := DataW.trod_int hi (by simpa using g3)
      obtain ⟨vn, a4, -, wvn⟩ := DataW.trod_int hj (by simpa using g4)
      simp at a0 a1 a3 a4
      subst a0 a1 a3 a4
      exact ⟨⟨b, k, vk, vn⟩, trivial, rfl⟩

theorem txn_cells {fuel : Nat} {t ti tl : TypeId} {f0 f1 f2 : Field} {cs : List Value} {x : DataW H × List MemPlace}
    (hs : P.underlying t = some (.struct #[f0, f1, f2])) (hC : P.cellsOf t = 3) (hi : P.underlying ti = some (.int .i64)) (ci : P.cellsOf ti = 1) (cl : P.cellsOf tl = 1)
    (e0 : f0.type = ti ∧ f0.offset = 0) (e1 : f1.type = ti ∧ f1.offset = 1) (e2 : f2.type = tl ∧ f2.offset = 2)
    (ops : ∀ fuel' cs' x', DataW.trod enc P w 0 (fun _ => true) true fuel' tl cs' = some x' → ∃ (A : Option Addr) (n c : Nat) (l : List Op4), cs' = [.slice A n c] ∧ n ≤ c ∧ c ≤ maxLen ∧ l.length = n ∧ (∀ y ∈ l, True) ∧ Row w w.heap.size A (l.flatMap Op4.c))
    (h : DataW.trod enc P w 0 (fun _ => true) true fuel t cs = some x) : ∃ y : TxA, TxOk w w.heap.size y ∧ cs = y.c := by
  obtain ⟨xs, n, _, rfl, hl, hlen, hf⟩ := DataW.trod_struct hs h
  rw [hC] at hl
  match cs, hl with
  | [c0, c1, c2], _ =>
    have h0 := hf 0 f0 rfl
    have h1 := hf 1 f1 rfl
    have h2 := hf 2 f2 rfl
    rw [e0.1, e0.2, ci] at h0
    rw [e1.1, e1.2, ci] at h1
    rw [e2.1, e2.2, cl] at h2
    match xs, hlen with
    | [y0, y1, y2], _ =>
      obtain ⟨s, a0, -, -⟩ := DataW.trod_int hi (by simpa using h0)
      obtain ⟨f, a1, -, -⟩ := DataW.trod_int hi (by simpa using h1)
      obtain ⟨A, m, c, l, a2, hle, hcm, hll, -, hR⟩ := ops _ _ _ (by simpa using h2)
      simp at a0 a1 a2
      subst a0 a1 a2 hll
      exact ⟨⟨⟨s, f, l⟩, A, c⟩, ⟨hR, hle, hcm⟩, rfl⟩

/-- A history that came in by value. -/
theorem open_hist {r : Reach} {b0 : Nat} {t ts te tt tx ti tl tq tb tv tj : TypeId} {f0 f1 f2 x0 x1 x2 o0 o1 o2 g0 g1 : Field} {v : Value} {d : DataW H} {p : List MemPlace}
    (hs : P.underlying t = some (.struct #[f0, f1, f2])) (hC : P.cellsOf t = 3) (hts : P.underlying ts = some (.slice te)) (hte : P.underlying te = some .string) (cte : P.cellsOf te = 1) (cts : P.cellsOf ts = 1)
    (htt : P.underlying tt = some (.slice tx)) (ctt : P.cellsOf tt = 1) (hx : P.underlying tx = some (.struct #[x0, x1, x2])) (hCx : P.cellsOf tx = 3) (hi : P.underlying ti = some (.int .i64)) (ci : P.cellsOf ti = 1)
    (htl : P.underlying tl = some (.slice tq)) (ctl : P.cellsOf tl = 1) (hos : P.underlying tq = some (.struct #[o0, o1, o2])) (hvs : P.underlying tv = some (.struct #[g0, g1])) (hCo : P.cellsOf tq = 4)
    (hb : P.underlying tb = some .bool) (hj : P.underlying tj = some (.int .i64)) (cb : P.cellsOf tb = 1) (cj : P.cellsOf tj = 1) (cv : P.cellsOf tv = 2)
    (e0 : f0.type = ts ∧ f0.offset = 0) (e1 : f1.type = ts ∧ f1.offset = 1) (e2 : f2.type = tt ∧ f2.offset = 2)
    (k0 : x0.type = ti ∧ x0.offset = 0) (k1 : x1.type = ti ∧ x1.offset = 1) (k2 : x2.type = tl ∧ x2.offset = 2)
    (m0 : o0.type = tb ∧ o0.offset = 0) (m1 : o1.type = ti ∧ o1.offset = 1) (m2 : o2.type = tv ∧ o2.offset = 2) (q0 : g0.type = ti ∧ g0.offset = 0) (q1 : g1.type = tj ∧ g1.offset = 1)
    (hv : Value.okWide P w r b0 t v) (h : DataW.Trod enc P w 0 (fun _ => true) true t v d p) :
    ∃ (A0 A1 A2 : Option Addr) (c0 c1 c2 : Nat) (g : Hst), v = hval A0 A1 A2 g.ss.length g.ks.length g.l.length c0 c1 c2 ∧ HAt w w.heap.size A0 A1 A2 g ∧ g.ss.length ≤ maxLen ∧ g.ks.length ≤ maxLen ∧ g.l.length ≤ maxLen ∧ (∀ z ∈ g.ss, z.size ≤ maxLen) ∧ (∀ z ∈ g.ks, z.size ≤ maxLen) := by
  obtain ⟨cs, rfl, hsz⟩ := okWide_struct hs hv
  obtain ⟨fuel, hf0⟩ := h
  have strs1 : ∀ fuel' cs' x', DataW.trod enc P w 0 (fun _ => true) true fuel' te cs' = some x' → ∃ y : ByteArray, y.size ≤ maxLen ∧ cs' = [.string y] := fun fuel' cs' x' h => by
    obtain ⟨s, a, -, ws⟩ := DataW.trod_string hte h
    exact ⟨s, ws, a⟩
  have ops1 := fun fuel' cs' x' (h : DataW.trod enc P w 0 (fun _ => true) true fuel' tl cs' = some x') => row_of Op4.c 4 (fun _ => rfl) (by omega) (fun _ => True) htl hCo (fun _ _ _ h => op_cells hos hvs hCo hb hi hj cb ci cj cv m0 m1 m2 q0 q1 h) h
  obtain ⟨xs, n, _, hxx, hl, hlen, hf⟩ := DataW.trod_struct hs hf0
  rw [hC] at hl
  have hcells : (Value.agg cs).cells.toList = cs.toList := by simp [Value.cells]
  rw [hcells] at hl hf
  match hcs : cs.toList, hl with
  | [c0, c1, c2], _ =>
    rw [hcs] at hf
    have h0 := hf 0 f0 rfl
    have h1 := hf 1 f1 rfl
    have h2 := hf 2 f2 rfl
    rw [e0.1, e0.2, cts] at h0
    rw [e1.1, e1.2, cts] at h1
    rw [e2.1, e2.2, ctt] at h2
    match xs, hlen with
    | [y0, y1, y2], _ =>
      obtain ⟨A0, n0, d0, z0, a0, l0, m0', hn0, hz0, r0⟩ := row_of (fun s : ByteArray => [Value.string s]) 1 (fun _ => rfl) (by omega) (fun s => s.size ≤ maxLen) hts cte strs1 (by simpa using h0)
      obtain ⟨A1, n1, d1, z1, a1, l1, m1', hn1, hz1, r1⟩ := row_of (fun s : ByteArray => [Value.string s]) 1 (fun _ => rfl) (by omega) (fun s => s.size ≤ maxLen) hts cte strs1 (by simpa using h1)
      obtain ⟨A2, n2, d2, z2, a2, l2, m2', hn2, hz2, r2⟩ := row_of TxA.c 3 (fun _ => rfl) (by omega) (TxOk w w.heap.size) htt hCx (fun _ _ _ h => txn_cells hx hCx hi ci ctl k0 k1 k2 ops1 h) (by simpa using h2)
      simp at a0 a1 a2
      subst a0 a1 a2
      have fs : ∀ l : List ByteArray, l.flatMap (fun s => [Value.string s]) = strs l := fun l => by
        induction l with
        | nil => rfl
        | cons x l ih => rw [List.flatMap_cons, ih]; rfl
      rw [fs] at r0 r1
      refine ⟨A0, A1, A2, d0, d1, d2, ⟨z0, z1, z2.map TxA.t⟩, ?_, ⟨r0, r1, z2, rfl, r2, hz2⟩, by rw [hn0]; exact Nat.le_trans l0 m0', by rw [hn1]; exact Nat.le_trans l1 m1', by rw [List.length_map, hn2]; exact Nat.le_trans l2 m2', hz0, hz1⟩
      have e : cs = #[.slice A0 n0 d0, .slice A1 n1 d1, .slice A2 n2 d2] := by
        apply Array.toList_inj.1
        rw [hcs]
      unfold hval
      dsimp only
      rw [e, hn0, hn1, List.length_map, hn2]
end

end Go.Proofs.YthaeomdpaadilaaGreatDoor
