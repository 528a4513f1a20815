/- known.Which, as Session and Infos call it: which transactions are so. -/
import Derived.Deep.Cut
import Derived.Test.YtpkibfpnfpjclaaDoorHistOrdersCardK5
import Derived.Test.YtpkibfpnfpjclaaDoorHistOrdersCardK22
set_option linter.unusedVariables false
set_option linter.unusedSimpArgs false
namespace Go.Proofs.YtpkibfpnfpjclaaDoor
open Go.RowKit
open Go.Lib hiding intOf
attribute [local go_sem ↓] Go.wp_at_zero Go.wp_at_succ

def whichL (p : Tx → Bool) (l : List Tx) : List Int := (l.zipIdx.filter fun x => p x.1).map fun x => (x.2 : Int)
theorem which_take {p : Tx → Bool} {l : List Tx} {k : Nat} {t : Tx} (h : l[k]? = some t) : whichL p (l.take (k + 1)) = whichL p (l.take k) ++ if p t = true then [(k : Int)] else [] := by
  have hk := (List.getElem?_eq_some_iff.1 h).1
  unfold whichL
  rw [List.take_add_one, h, List.zipIdx_append, List.filter_append, List.map_append, List.length_take, Nat.min_eq_left (Nat.le_of_lt hk)]
  by_cases hp : p t = true <;> simp [hp, List.zipIdx]
theorem which_le (p : Tx → Bool) (l : List Tx) : (whichL p l).length ≤ l.length := by
  unfold whichL
  rw [List.length_map]
  exact Nat.le_trans (List.length_filter_le _ _) (by simp)

set_option maxHeartbeats 400000 in
theorem isinfo_any (s f : Int) (A : Option Addr) (m c : Nat) (w : World) :
    Calls Tryd.prog 44 #[.agg #[.int .i64 s, .int .i64 f, .slice A m c]] w fun e w' => e = .returned (.bool (decide (f = 3))) ∧ Only [] w w' := by
  by_cases h : f = 3
  · subst h
    go_enter Tryd.func44, Tryd.ntmps44
    go_wp2
    go_ret
    exact ⟨rfl, (Only.refl _ _).alloc _⟩
  · have h1 : (f == 3) = false := by simpa using h
    have h2 : Hid (decide (f = 3) = false) := Lib.hid (decide_eq_false h)
    clear h
    go_enter Tryd.func44, Tryd.ntmps44
    go_wp2
    go_ret
    exact ⟨by rw [h2.out]; rfl, (Only.refl _ _).alloc _⟩

set_option maxHeartbeats 400000 in
theorem isses_any (s f x : Int) (A : Option Addr) (m c p : Nat) (w : World) (hp : p < w.heap.size) (hx : w.cell? ⟨p, 0, none⟩ = some (.int .i64 x)) :
    Calls Tryd.prog 29 #[.agg #[.int .i64 s, .int .i64 f, .slice A m c], .pointer (some ⟨p, 0, none⟩)] w fun e w' => e = .returned (.bool (decide (s = x))) ∧ Only [] w w' := by
  by_cases h : s = x
  · subst h
    go_enter Tryd.func29, Tryd.ntmps29
    go_wp2
    go_ret
    exact ⟨by simp, (Only.refl _ _).alloc _⟩
  · have h1 : (s == x) = false := by simpa using h
    have h2 : Hid (decide (s = x) = false) := Lib.hid (decide_eq_false h)
    clear h
    go_enter Tryd.func29, Tryd.ntmps29
    go_wp2
    go_ret
    exact ⟨by rw [h2.out]; rfl, (Only.refl _ _).alloc _⟩
set_option maxRecDepth 10000 in
set_option maxHeartbeats 4000000 in
theorem whichI_any (A0 A1 A2 : Option Addr) (n0 n1 n2 c0 c1 c2 B : Nat) (h : Hst) (w : World) (hg : LRow w B A2 h.l) (hn2 : h.l.length = n2) (hM : n2 ≤ 1000) :
    Calls Tryd.prog 28 #[hval A0 A1 A2 n0 n1 n2 c0 c1 c2, .func (.func 44) #[] #[]] w fun e w' =>
      ∃ V, (e = .returned V ∧ w'.ownsRow w.heap.size 3 1 V (whichL (fun t => decide (t.f = 3)) h.l).length ((whichL (fun t => decide (t.f = 3)) h.l).map (Value.int .i64))) ∧ Only [] w w' := by
  unfold hval
  have HIS := Lib.hid (fun s f A m c w' => isinfo_any s f A m c w')
  obtain ⟨i0, hi, hz0, hz1, hz2⟩ := info_parts info_int
  have HG := Lib.hid hg
  have HN2 := Lib.hid hn2
  have HO := Lib.hid ((Only.refl [] w).alloc (.cells #[.slice A0 n0 c0, .slice A1 n1 c1, .slice A2 n2 c2] 25))
  clear hg hn2
  obtain ⟨q, hq⟩ : ∃ q : Tx → Bool, q = fun t => decide (t.f = 3) := ⟨_, rfl⟩
  rw [← hq]
  have HQ := Lib.hid hq
  clear hq
  go_enter Tryd.func28, Tryd.ntmps28
  go_wp2_with fail
  go_loopw [5, 11] (fun V iv wr => ∃ k : Nat, iv = .int .i64 k ∧ k ≤ n2 ∧ Hid (wr.ownsRow w.heap.size 3 1 V (whichL q (h.l.take k)).length ((whichL q (h.l.take k)).map (Value.int .i64))) ∧ Hid (Only [] w wr)) (fun _ iv _ => n2 - (intOf iv).toNat)
  case atStart => exact ⟨0, rfl, by omega, Lib.hid ⟨rfl, .inl ⟨rfl, rfl⟩⟩, HO⟩
  case round =>
    obtain ⟨k, rfl, hk, hV, hO⟩ := hrel
    have hsz := hO.out.size
    by_cases hlt : k < n2
    · obtain ⟨x, hx⟩ : ∃ x, h.l[k]? = some x := ⟨_, List.getElem?_eq_getElem (by rw [HN2.out]; exact hlt)⟩
      obtain ⟨b, off, A', cp, rfl, -, hbw, hT, hOk⟩ := HG.out.at_ hx
      obtain ⟨a0, a1, a2⟩ := hT.only hO.out hbw (by simp)
      have HWT := Lib.hid (which_take (p := q) hx)
      have hwl := which_le q (h.l.take k)
      rw [List.length_take] at hwl
      obtain ⟨s, f, ops⟩ := x
      dsimp only at a0 a1 a2
      generalize hm : ops.length = m at *
      have h01 : (k : Int) < (n2 : Int) := by omega
      have hk0 : (0 : Int) ≤ (k : Int) := Int.natCast_nonneg _
      have hwk : IntKind.i64.wrap ((k : Int) + 1) = (k : Int) + 1 := IntWalk.i64_in _ (by omega)
      have hbr : b < wr.heap.size := by omega
      have HQX : Hid (q ⟨s, f, ops⟩ = decide (f = 3)) := Lib.hid (by rw [HQ.out])
      clear hT hOk hx hm
      go_upto_region 5 with (fail)
      have O2 : Only [] wr (wr.alloc (.cells #[.int .i64 s, .int .i64 f, .slice A' m cp] 45)) := (Only.refl [] wr).alloc _
      have bT := Blk.made wr 45 #[.int .i64 s, .int .i64 f, .slice A' m cp]
      have HV2 := Lib.hid (own_only hV.out O2 (by simp))
      have HO2 := Lib.hid (hO.out.trans O2)
      clear a0 a1 a2 O2 hV hO
      generalize (wr.alloc (.cells #[.int .i64 s, .int .i64 f, .slice A' m cp] 45)) = w2 at *
      generalize wr.heap.size = gt at *
      have lT := bT.lt
      have t0 := bT.at_ 0
      have t1 := bT.at_ 1
      have t2 := bT.at_ 2
      simp at t0 t1 t2
      clear bT
      have HF := Lib.hid (HIS.out s f A' m cp w2)
      cases hf : decide (f = 3) with
      | false =>
        rw [hf] at HF HQX
        have HE : Hid (whichL q (h.l.take (k + 1)) = whichL q (h.l.take k)) := Lib.hid (by rw [HWT.out, HQX.out]; simp)
        clear hf
        go_wp2_with fail
        refine (HF.out).mono ?_
        rintro e w3 ⟨rfl, O3⟩
        have HV3 := Lib.hid (own_only HV2.out O3 (by simp))
        have HO3 := Lib.hid (HO2.out.trans O3)
        clear O3
        go_wp2
        go_roundw
        case rel => exact ⟨k + 1, by go_num, by omega, Lib.hid (by rw [HE.out]; exact HV3.out), HO3⟩
        case measure => simp [intOf]; omega
      | true =>
        rw [hf] at HF HQX
        have HE : Hid (whichL q (h.l.take (k + 1)) = whichL q (h.l.take k) ++ [(k : Int)]) := Lib.hid (by rw [HWT.out, HQX.out]; simp)
        clear hf
        go_wp2_with fail
        refine (HF.out).mono ?_
        rintro e w3 ⟨rfl, O3⟩
        have HV3 := Lib.hid (own_only HV2.out O3 (by simp))
        have HO3 := Lib.hid (HO2.out.trans O3)
        clear O3
        go_wp2_with (at_builtin; refine wpList_append_row _ rfl (.tmp 19) (.tmp 21) _ rfl w.heap.size 3 i0 _ 1 8 Tryd.underlying27 hi hz0 hz1 hz2 rfl (by omega) _ _ _ rfl (own_only HV3.out ((Only.refl [] _).alloc _) (by simp)) (w3.heap.size + 1) (some ⟨w3.heap.size, 0, none⟩) 1 1 [.int .i64 (k : Int)] rfl rfl (row_lit w3 3 #[.int .i64 (k : Int)]) (by simp [Value.oneCell']) (by unfold maxLen; omega) (by omega) (by have := HO3.out.size; simp; omega) ?_; intro v4 w4 hown4 hgrow hat)
        have REL : w4.ownsRow w.heap.size 3 1 v4 (whichL q (h.l.take (k + 1))).length ((whichL q (h.l.take (k + 1))).map (Value.int .i64)) ∧ Only [] w w4 := by
          refine ⟨?_, (HO3.out.alloc _).step (only_grown hgrow) (own_new HV3.out)⟩
          rw [HE.out]
          simpa using hown4
        have HREL := Lib.hid REL
        clear REL hown4
        go_wp2
        go_roundw
        case rel => first | exact ⟨k + 1, by go_num, by omega, Lib.hid HREL.out.1, Lib.hid HREL.out.2⟩ | exact ⟨_, ⟨k + 1, by go_num, by omega, Lib.hid HREL.out.1, Lib.hid HREL.out.2⟩, rfl⟩
        case measure => simp [intOf]; omega
    · have hkn : k = n2 := by omega
      subst hkn
      have hd2 : decide ((k : Int) < (k : Int)) = false := by simp
      have HVV : Hid (wr.ownsRow w.heap.size 3 1 u5 (whichL q h.l).length ((whichL q h.l).map (Value.int .i64))) := Lib.hid (by
        have := hV.out
        rwa [List.take_of_length_le (by rw [HN2.out]; exact Nat.le_refl _)] at this)
      clear hV
      go_wp2
      go_ret
      exact ⟨_, ⟨rfl, HVV.out⟩, hO.out⟩
set_option maxRecDepth 10000 in
set_option maxHeartbeats 4000000 in
theorem whichS_any (A0 A1 A2 : Option Addr) (n0 n1 n2 c0 c1 c2 B : Nat) (h : Hst) (x : Int) (p : Nat) (w : World) (hp : p < w.heap.size) (hx : w.cell? ⟨p, 0, none⟩ = some (.int .i64 x)) (hg : LRow w B A2 h.l) (hn2 : h.l.length = n2) (hM : n2 ≤ 1000) :
    Calls Tryd.prog 28 #[hval A0 A1 A2 n0 n1 n2 c0 c1 c2, .func (.func 29) #[] #[.pointer (some ⟨p, 0, none⟩)]] w fun e w' =>
      ∃ V, (e = .returned V ∧ w'.ownsRow w.heap.size 3 1 V (whichL (fun t => decide (t.s = x)) h.l).length ((whichL (fun t => decide (t.s = x)) h.l).map (Value.int .i64))) ∧ Only [] w w' := by
  unfold hval
  have HIS := Lib.hid (fun s f A m c w' (O : Only [] w w') => isses_any s f x A m c p w' (by have := O.size; omega) ((O.cell (p := ⟨p, 0, none⟩) hp (by simp)).trans hx))
  obtain ⟨i0, hi, hz0, hz1, hz2⟩ := info_parts info_int
  have HG := Lib.hid hg
  have HN2 := Lib.hid hn2
  have HO := Lib.hid ((Only.refl [] w).alloc (.cells #[.slice A0 n0 c0, .slice A1 n1 c1, .slice A2 n2 c2] 25))
  clear hg hn2 hx
  obtain ⟨q, hq⟩ : ∃ q : Tx → Bool, q = fun t => decide (t.s = x) := ⟨_, rfl⟩
  rw [← hq]
  have HQ := Lib.hid hq
  clear hq
  go_enter Tryd.func28, Tryd.ntmps28
  go_wp2_with fail
  go_loopw [5, 11] (fun V iv wr => ∃ k : Nat, iv = .int .i64 k ∧ k ≤ n2 ∧ Hid (wr.ownsRow w.heap.size 3 1 V (whichL q (h.l.take k)).length ((whichL q (h.l.take k)).map (Value.int .i64))) ∧ Hid (Only [] w wr)) (fun _ iv _ => n2 - (intOf iv).toNat)
  case atStart => exact ⟨0, rfl, by omega, Lib.hid ⟨rfl, .inl ⟨rfl, rfl⟩⟩, HO⟩
  case round =>
    obtain ⟨k, rfl, hk, hV, hO⟩ := hrel
    have hsz := hO.out.size
    by_cases hlt : k < n2
    · obtain ⟨y, hx⟩ : ∃ y, h.l[k]? = some y := ⟨_, List.getElem?_eq_getElem (by rw [HN2.out]; exact hlt)⟩
      obtain ⟨b, off, A', cp, rfl, -, hbw, hT, hOk⟩ := HG.out.at_ hx
      obtain ⟨a0, a1, a2⟩ := hT.only hO.out hbw (by simp)
      have HWT := Lib.hid (which_take (p := q) hx)
      have hwl := which_le q (h.l.take k)
      rw [List.length_take] at hwl
      obtain ⟨s, f, ops⟩ := y
      dsimp only at a0 a1 a2
      generalize hm : ops.length = m at *
      have h01 : (k : Int) < (n2 : Int) := by omega
      have hk0 : (0 : Int) ≤ (k : Int) := Int.natCast_nonneg _
      have hwk : IntKind.i64.wrap ((k : Int) + 1) = (k : Int) + 1 := IntWalk.i64_in _ (by omega)
      have hbr : b < wr.heap.size := by omega
      have HQX : Hid (q ⟨s, f, ops⟩ = decide (s = x)) := Lib.hid (by rw [HQ.out])
      clear hT hOk hx hm
      go_upto_region 5 with (fail)
      have O2 : Only [] wr (wr.alloc (.cells #[.int .i64 s, .int .i64 f, .slice A' m cp] 45)) := (Only.refl [] wr).alloc _
      have bT := Blk.made wr 45 #[.int .i64 s, .int .i64 f, .slice A' m cp]
      have HV2 := Lib.hid (own_only hV.out O2 (by simp))
      have HO2 := Lib.hid (hO.out.trans O2)
      clear a0 a1 a2 O2 hV hO
      generalize (wr.alloc (.cells #[.int .i64 s, .int .i64 f, .slice A' m cp] 45)) = w2 at *
      generalize wr.heap.size = gt at *
      have lT := bT.lt
      have t0 := bT.at_ 0
      have t1 := bT.at_ 1
      have t2 := bT.at_ 2
      simp at t0 t1 t2
      clear bT
      have HF := Lib.hid (HIS.out s f A' m cp w2 HO2.out)
      cases hf : decide (s = x) with
      | false =>
        rw [hf] at HF HQX
        have HE : Hid (whichL q (h.l.take (k + 1)) = whichL q (h.l.take k)) := Lib.hid (by rw [HWT.out, HQX.out]; simp)
        clear hf
        go_wp2_with fail
        refine (HF.out).mono ?_
        rintro e w3 ⟨rfl, O3⟩
        have HV3 := Lib.hid (own_only HV2.out O3 (by simp))
        have HO3 := Lib.hid (HO2.out.trans O3)
        clear O3
        go_wp2
        go_roundw
        case rel => exact ⟨k + 1, by go_num, by omega, Lib.hid (by rw [HE.out]; exact HV3.out), HO3⟩
        case measure => simp [intOf]; omega
      | true =>
        rw [hf] at HF HQX
        have HE : Hid (whichL q (h.l.take (k + 1)) = whichL q (h.l.take k) ++ [(k : Int)]) := Lib.hid (by rw [HWT.out, HQX.out]; simp)
        clear hf
        go_wp2_with fail
        refine (HF.out).mono ?_
        rintro e w3 ⟨rfl, O3⟩
        have HV3 := Lib.hid (own_only HV2.out O3 (by simp))
        have HO3 := Lib.hid (HO2.out.trans O3)
        clear O3
        go_wp2_with (at_builtin; refine wpList_append_row _ rfl (.tmp 19) (.tmp 21) _ rfl w.heap.size 3 i0 _ 1 8 Tryd.underlying27 hi hz0 hz1 hz2 rfl (by omega) _ _ _ rfl (own_only HV3.out ((Only.refl [] _).alloc _) (by simp)) (w3.heap.size + 1) (some ⟨w3.heap.size, 0, none⟩) 1 1 [.int .i64 (k : Int)] rfl rfl (row_lit w3 3 #[.int .i64 (k : Int)]) (by simp [Value.oneCell']) (by unfold maxLen; omega) (by omega) (by have := HO3.out.size; simp; omega) ?_; intro v4 w4 hown4 hgrow hat)
        have REL : w4.ownsRow w.heap.size 3 1 v4 (whichL q (h.l.take (k + 1))).length ((whichL q (h.l.take (k + 1))).map (Value.int .i64)) ∧ Only [] w w4 := by
          refine ⟨?_, (HO3.out.alloc _).step (only_grown hgrow) (own_new HV3.out)⟩
          rw [HE.out]
          simpa using hown4
        have HREL := Lib.hid REL
        clear REL hown4
        go_wp2
        go_roundw
        case rel => first | exact ⟨k + 1, by go_num, by omega, Lib.hid HREL.out.1, Lib.hid HREL.out.2⟩ | exact ⟨_, ⟨k + 1, by go_num, by omega, Lib.hid HREL.out.1, Lib.hid HREL.out.2⟩, rfl⟩
        case measure => simp [intOf]; omega
    · have hkn : k = n2 := by omega
      subst hkn
      have hd2 : decide ((k : Int) < (k : Int)) = false := by simp
      have HVV : Hid (wr.ownsRow w.heap.size 3 1 u5 (whichL q h.l).length ((whichL q h.l).map (Value.int .i64))) := Lib.hid (by
        have := hV.out
        rwa [List.take_of_length_le (by rw [HN2.out]; exact Nat.le_refl _)] at this)
      clear hV
      go_wp2
      go_ret
      exact ⟨_, ⟨rfl, HVV.out⟩, hO.out⟩
end Go.Proofs.YtpkibfpnfpjclaaDoor
