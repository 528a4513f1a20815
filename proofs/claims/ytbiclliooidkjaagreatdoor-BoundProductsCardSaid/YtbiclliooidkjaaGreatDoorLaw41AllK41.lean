/- Parts. -/
import Derived.Test.YtbiclliooidkjaaGreatDoorLaw41AllK40
set_option maxRecDepth 10000
set_option maxHeartbeats 16000000
set_option linter.unusedVariables false
set_option linter.unusedSimpArgs false
namespace Go.Proofs.YtbiclliooidkjaaGreatDoor
open Go.RowKit
open Go.Lib hiding intOf
attribute [local go_sem ↓] Go.wp_at_zero Go.wp_at_succ
theorem of_any (s : ByteArray) (w : World) (hs : s.size ≤ 65536) (hT : UTabs w) :
    Calls Tryz.prog 56 #[.string s] w fun e w' => Only [] w w' ∧
      (((∀ x ∈ linesOf (by_ s), validD x = true) ∧ ∃ V xs, e = .returned (.tuple #[V, .int .i64 0, .int .i64 0]) ∧ w'.ownsRow w.heap.size 9 1 V xs.length (strs xs) ∧ xs.map by_ = linesOf (by_ s)) ∨
       (∃ (i : Nat) (x : List UInt8), (linesOf (by_ s))[i]? = some x ∧ validD x = false ∧ (∀ j y, j < i → (linesOf (by_ s))[j]? = some y → validD y = true) ∧ e = .returned (.tuple #[.slice none 0 0, .int .i64 ((i : Int) + 1), .int .i64 5]))) := by
  have HC := Hd (cut_any s w hs)
  have HT := Hd hT
  have hs1 : ¬ (65536 : Int) < (s.size : Int) := by omega
  have hlm := cutL_mem (by_ s) []
  have hln := cutL_len (by_ s) []
  rw [by_length] at hln
  have HLM := Hd hlm
  clear hT hlm
  go_enter Tryz.func56, Tryz.ntmps56
  go_wp2_with fail
  refine (HC.out).mono ?_
  rintro e w1 ⟨V, xs, ⟨rfl, hown, hxs⟩, hO⟩
  obtain ⟨A, c, rfl, hc1, hc2, hxl, hrow⟩ := own_row hown
  obtain ⟨n, hn⟩ : ∃ n, n = xs.length := ⟨_, rfl⟩
  have hnl : (linesOf (by_ s)).length = n := by rw [← hxs, List.length_map, hn]
  unfold linesOf at hnl
  have hn65 : n ≤ 65537 := by omega
  have HXS := Hd hxs
  have HOWN := Hd hown
  have HROW := Hd hrow
  have HO := Hd hO
  have HN := Hd hn
  rw [← hn] at hc1 ⊢
  clear hxs hown hrow hO hxl hnl hln hn
  go_wp2
  go_loopw [15] (fun i wr => ∃ k : Nat, i = .int .i64 k ∧ k ≤ n ∧ Hid (∀ j y, j < k → (linesOf (by_ s))[j]? = some y → validD y = true) ∧ Hid (Only [] w1 wr)) (fun i _ => n - (intOf i).toNat)
  case atStart => exact ⟨0, rfl, by omega, Hd (fun j y h => by omega), Hd (Only.refl _ _)⟩
  case round =>
    obtain ⟨k, rfl, hk, HV, HO1⟩ := hrel
    by_cases hlt : k < n
    · have hk1 : (k : Int) < (n : Int) := by omega
      have hk0 : (0 : Int) ≤ (k : Int) := Int.natCast_nonneg _
      obtain ⟨b, off, rfl, hbB, hbw, hcell⟩ := HROW.out.open_ (k := k) (by rw [strs, List.length_map, ← HN.out]; exact hlt)
      obtain ⟨x, hx⟩ : ∃ x, xs[k]? = some x := ⟨_, List.getElem?_eq_getElem (by rw [← HN.out]; exact hlt)⟩
      have hck : wr.cell? ⟨b, off + k, none⟩ = some (.string x) := (HO1.out.cell (p := ⟨b, off + k, none⟩) hbw (by simp)).trans (hcell k _ (by rw [strs, List.getElem?_map, hx]; rfl))
      have hlx : (linesOf (by_ s))[k]? = some (by_ x) := by rw [← HXS.out, List.getElem?_map, hx]; rfl
      have hxs : x.size ≤ 9223372036854775807 := by
        have := HLM.out (by_ x) (List.mem_of_getElem? hlx)
        rw [by_length, by_length] at this
        simp at this
        omega
      have HVC := Hd (valid_any x wr hxs ((HT.out.only HO.out).only HO1.out))
      have HLX := Hd hlx
      clear hcell hx hlx hxs
      obtain ⟨vb, hvb⟩ : ∃ vb, vb = validD (by_ x) := ⟨_, rfl⟩
      rw [← hvb] at HVC
      have HVB := Hd hvb
      clear hvb
      cases vb with
      | true =>
        go_wp2_with fail
        refine (HVC.out).mono ?_
        rintro e w2 ⟨rfl, hO2⟩
        have HO2 := Hd (HO1.out.trans hO2)
        have HV2 : Hid (∀ j y, j < k + 1 → (linesOf (by_ s))[j]? = some y → validD y = true) := Hd (fun j y hj hy => by
          by_cases hjk : j < k
          · exact HV.out j y hjk hy
          · have : j = k := by omega
            subst this
            rw [HLX.out] at hy
            obtain rfl := Option.some.inj hy
            exact HVB.out.symm)
        clear hO2
        go_wp2
        go_roundw
        case rel => exact ⟨k + 1, by go_num, by omega, HV2, HO2⟩
        case measure => simp [intOf]; omega
      | false =>
        have hwk : IntKind.i64.wrap ((k : Int) + 1) = (k : Int) + 1 := IntWalk.i64_in _ (by omega)
        go_wp2_with fail
        refine (HVC.out).mono ?_
        rintro e w2 ⟨rfl, hO2⟩
        have HO2 := Hd (HO1.out.trans hO2)
        clear hO2
        go_wp2
        go_ret3
        exact ⟨HO.out.trans HO2.out, .inr ⟨k, by_ x, HLX.out, HVB.out.symm, HV.out, rfl⟩⟩
    · have hkn : k = n := by omega
      subst hkn
      have hd : decide ((k : Int) < (k : Int)) = false := by simp
      go_wp2
      go_ret3
      · refine ⟨HO.out.trans HO1.out, .inl ⟨fun x hx => ?_, .slice A k c, xs, rfl, ?_, HXS.out⟩⟩
        · obtain ⟨j, hj⟩ := List.mem_iff_getElem?.1 hx
          have hjl : j < (linesOf (by_ s)).length := (List.getElem?_eq_some_iff.1 hj).1
          rw [← HXS.out, List.length_map, ← HN.out] at hjl
          exact HV.out j x hjl hj
        · have := own_only HOWN.out HO1.out (by simp)
          rw [← HN.out] at this ⊢
          exact this
def logOf : List ByteArray → Int → List Ev6 → List Ev6 × Int × Int
 | [], _, acc => (acc, 0, 0)
 | row :: rest, i, acc => if stepE acc row = 0 then logOf rest (i + 1) (stepL acc i row) else ([], i, stepE acc row)
def rowsOf (s : ByteArray) : List ByteArray := (linesOf (by_ s)).map fun l => ⟨l.toArray⟩
def logParse (s : ByteArray) : List Ev6 × Int × Int :=
 if 65536 < s.size then ([], 0, 6) else
  match (linesOf (by_ s)).findIdx? (fun x => !validD x) with
  | some i => ([], (i : Int) + 1, 5)
  | none => logOf (rowsOf s) 1 []
theorem stepL_len (l : List Ev6) (num : Int) (row : ByteArray) (h : l.length ≤ 1000) : (stepL l num row).length ≤ 1000 := by
 unfold stepL
 split
 ·rename_i hc
  rw [List.length_append];have := hc.2;simp;omega
 ·exact h
theorem rows_eq {s : ByteArray} {xs : List ByteArray} (h : xs.map by_ = linesOf (by_ s)) : rowsOf s = xs := by
 unfold rowsOf;rw [← h, List.map_map];have : ((fun l => (⟨l.toArray⟩ : ByteArray)) ∘ by_) = id := by
  funext x
  exact by_inj (by show (by_ x).toArray.toList = by_ x; simp)
 rw [this, List.map_id]
theorem own_lowerP {w : World} {base base' : Nat} {e : TypeId} {size : Nat} {v : Value} {n : Nat} {xs : List Value} (h : w.ownsRow base e size v n xs) (hb : base' ≤ base) : w.ownsRow base' e size v n xs := by
 obtain ⟨hl, hv⟩ := h;refine ⟨hl, ?_⟩;rcases hv with hv | ⟨g, cap, cur, rfl, hg, rest⟩
 ·exact .inl hv
 ·exact .inr ⟨g, cap, cur, rfl, Nat.le_trans hb hg, rest⟩
theorem row_nil (w : World) (base : Nat) : w.ownsRow base 99 6 (.slice none 0 0) 0 (logC []) := ⟨rfl, .inl ⟨rfl, rfl⟩⟩
theorem logparse_any (s : ByteArray) (w : World) (hs : s.size ≤ 65536) (hrow : ∀ x ∈ linesOf (by_ s), x.length ≤ 65535) (hT : UTabs w) (hM : MLen w) (hV : Verbs w) :
  Calls Tryz.prog 37 #[.string s] w fun e w' => Only [] w w' ∧ ∃ V, e = .returned (.tuple #[V, .int .i64 (logParse s).2.1, .int .i64 (logParse s).2.2]) ∧ w'.ownsRow w.heap.size 99 6 V (logParse s).1.length (logC (logParse s).1) := by
 obtain ⟨i0, hi, hz0, hz1, hz2⟩ := info_parts info_event;have HOF := Hd (of_any s w hs hT);have HWR := Hd (fun num row Bl V (l : List Ev6) w' (h : row.size ≤ 65535) (hO : Only [] w w') (hB : Blk w' Bl 68 #[V]) (hown : w'.ownsRow Bl 99 6 V l.length (logC l)) (hl : l.length ≤ 1000) =>
  wrong_any num row Bl Bl V l w' h (hT.only hO) (hM.only hO) (hV.only hO) hB hown (Nat.le_of_lt hB.lt) hl)
 have hmf : ∀ (fn : Fn) (first cap : Array Value) (w : World), (Instr.makeFunc fn first cap).run Tryz.prog w = .ok (.func fn first cap) w := fun _ _ _ _ => rfl;obtain ⟨r, hr⟩ : ∃ r, r = logParse s := ⟨_, rfl⟩;rw [← hr];have HR := Hd hr;have HROWS := Hd hrow;have hln := cutL_len (by_ s) [];rw [by_length] at hln;clear hr hT hM hV hrow;go_enter Tryz.func37, Tryz.ntmps37;go_wp2_with fail
 refine (HOF.out).mono ?_;rintro e w1 ⟨O1, ⟨hval, V0, xs, rfl, hown0, hxs⟩ | ⟨i, x, hx, hbad, hfirst, rfl⟩⟩
 ·have hidx : (linesOf (by_ s)).findIdx? (fun x => !validD x) = none := by
   rw [List.findIdx?_eq_none_iff];intro x hx;rw [hval x hx]
   rfl
  have hr : r = logOf xs 1 [] := by
   rw [HR.out];unfold logParse;rw [if_neg (by omega), hidx, rows_eq hxs]
  have HXS : Hid (∀ x ∈ xs, x.size ≤ 65535) := Hd (fun x hx => by
   have := HROWS.out (by_ x) (by rw [← hxs]; exact List.mem_map_of_mem hx)
   rwa [by_length] at this)
  have hnl : xs.length ≤ 65537 := by
   have := congrArg List.length hxs;rw [List.length_map] at this;unfold linesOf at this;omega
  obtain ⟨A0, c0, rfl, -, -, -, hrow0⟩ := own_row hown0;generalize hn : xs.length = n at *;have HN := Hd hn;have HRR := Hd hr;have HO1 := Hd O1;have HROW := Hd hrow0;have HB1 := Hd (Blk.made w1 68 #[.slice none 0 0]);have hsz1 := O1.size;clear hval hown0 hxs hidx HR HROWS hn hr O1 hrow0 hln;generalize hbl : w1.heap.size = Bl at *;go_wp2_with fail
  go_loopw [26] (fun iv wr => ∃ (k : Nat) (V : Value) (acc : List Ev6), iv = .int .i64 k ∧ k ≤ n ∧ acc.length ≤ 1000 ∧ Hid (r = logOf (xs.drop k) ((k : Int) + 1) acc) ∧ Hid (Blk wr Bl 68 #[V]) ∧ Hid (wr.ownsRow Bl 99 6 V acc.length (logC acc)) ∧ Hid (Only [] w wr) ∧ Hid (Only [Bl] w1 wr)) (fun iv _ => n - (intOf iv).toNat)
  case atStart => exact ⟨0, .slice none 0 0, [], rfl, by omega, by simp, HRR, HB1, Hd (row_nil _ _), Hd (HO1.out.alloc _), Hd ((Only.refl _ w1).alloc _)⟩
  case round =>
   obtain ⟨k, V, acc, rfl, hk, hacc, hR, hB, hown, hO, hOB⟩ := hrel
   by_cases hlt : k < n
   ·have h01 : (k : Int) < (n : Int) := by omega
    have hk0 : (0 : Int) ≤ (k : Int) := Int.natCast_nonneg _;have hwk : IntKind.i64.wrap ((k : Int) + 1) = (k : Int) + 1 := IntWalk.i64_in _ (by omega);obtain ⟨b, off, rfl, hbB, hbw, hcell⟩ := HROW.out.open_ (k := k) (by rw [strs, List.length_map, HN.out]; exact hlt);obtain ⟨x, hx⟩ : ∃ x, xs[k]? = some x := ⟨_, List.getElem?_eq_getElem (by rw [HN.out]; exact hlt)⟩;have hck : wr.cell? ⟨b, off + k, none⟩ = some (.string x) := (hOB.out.cell (p := ⟨b, off + k, none⟩) hbw (by simp only [List.mem_singleton]; omega)).trans (hcell k _ (by rw [strs, List.getElem?_map, hx]; rfl));have HW := Hd (HWR.out ((k : Int) + 1) x Bl V acc wr (HXS.out x (List.mem_of_getElem? hx)) hO.out hB.out hown.out hacc);have hstep : logOf (xs.drop k) ((k : Int) + 1) acc = if stepE acc x = 0 then logOf (xs.drop (k + 1)) (((k + 1 : Nat) : Int) + 1) (stepL acc ((k : Int) + 1) x) else ([], (k : Int) + 1, stepE acc x) := by
     obtain ⟨h1, h2⟩ := List.getElem?_eq_some_iff.1 hx;rw [List.drop_eq_getElem_cons h1, h2]
     rfl
    have hlen := stepL_len acc ((k : Int) + 1) x hacc;have HST := Hd (hR.out.trans hstep);generalize stepL acc ((k : Int) + 1) x = acc2 at *;generalize stepE acc x = E at *;clear hcell hx hstep;go_wp2_with fail
    refine (HW.out).mono ?_;rintro e w2 ⟨rfl, V2, hB2, hown2, hO2⟩;have HB2 := Hd hB2;have HOWN2 := Hd hown2;have hO3 : Only [] w w2 := hO.out.step hO2 (fun i hi hl => by
     rcases List.mem_cons.1 hi with rfl | h
     ·omega
     ·exact own_new hown.out i h (by omega))
    have hO4 : Only [Bl] w1 w2 := hOB.out.step hO2 (fun i hi hl => by
     rcases List.mem_cons.1 hi with rfl | h
     ·simp
     ·exact own_new hown.out i h (by omega))
    have HO3 := Hd hO3;have HO4 := Hd hO4;clear hB2 hown2 hO2 hO3 hO4 HW
    by_cases hE : E = 0
    ·subst hE;have HR2 : Hid (r = logOf (xs.drop (k + 1)) (((k + 1 : Nat) : Int) + 1) acc2) := Hd (by rw [HST.out, if_pos rfl]);go_wp2
     go_roundw
     case rel => exact ⟨k + 1, V2, acc2, by go_num, by omega, hlen, HR2, HB2, HOWN2, HO3, HO4⟩
     case measure => simp [intOf]; omega
    ·have hE' : (E != 0) = true := by simpa using hE
     obtain rfl : r = ([], (k : Int) + 1, E) := by rw [HST.out, if_neg hE]
     clear HST hE;go_wp2
     go_ret3
     exact ⟨HO3.out, _, rfl, row_nil _ _⟩
   ·have hkn : k = n := by omega
    subst hkn;have hd : decide ((k : Int) < (k : Int)) = false := by simp
    obtain rfl : r = (acc, 0, 0) := by rw [hR.out, List.drop_of_length_le (by rw [HN.out]; exact Nat.le_refl _)]; rfl
    have lB := hB.out.lt;have cB := hB.out.at_ 0;simp at cB;go_wp2
    go_ret3
    exact ⟨hO.out, V, rfl, own_lowerP hown.out hsz1⟩
 ·have hidx : (linesOf (by_ s)).findIdx? (fun x => !validD x) = some i := by
   rw [List.findIdx?_eq_some_iff_getElem];obtain ⟨h1, h2⟩ := List.getElem?_eq_some_iff.1 hx;refine ⟨h1, by rw [h2, hbad]; rfl, fun j hj => ?_⟩;have := hfirst j _ hj (List.getElem?_eq_getElem (by omega));rw [this];simp
  obtain rfl : r = ([], (i : Int) + 1, 5) := by
   rw [HR.out];unfold logParse;rw [if_neg (by omega), hidx]
  have HO1 := Hd O1;clear hx hbad hfirst hidx HR O1 HROWS;go_wp2
  go_ret3
  exact ⟨HO1.out, _, rfl, row_nil _ _⟩
end Go.Proofs.YtbiclliooidkjaaGreatDoor
