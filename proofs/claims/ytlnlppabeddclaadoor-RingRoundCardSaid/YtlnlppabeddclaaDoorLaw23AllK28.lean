/- Parts. -/
import Derived.Test.YtlnlppabeddclaaDoorLaw23AllK21
import Derived.Test.YtlnlppabeddclaaDoorLaw23AllK27
set_option maxRecDepth 10000
set_option maxHeartbeats 16000000
set_option linter.unusedVariables false
set_option linter.unusedSimpArgs false
namespace Go.Proofs.YtlnlppabeddclaaDoor
theorem good_iff {n : Nat} {e : Int × Int} : goodE n e = true ↔ (0 ≤ e.1 ∧ e.1 < n) ∧ (0 ≤ e.2 ∧ e.2 < n) := by unfold goodE ndN; simp
theorem wf_good {n : Nat} {l : List (Int × Int)} (h : l.all (goodE n) = true) : WfE n l := fun e he => by
 have := good_iff.1 (List.all_eq_true.1 h e he);exact ⟨e.1.toNat, e.2.toNat, Prod.ext (by show e.1 = _; omega) (by show e.2 = _; omega), by omega, by omega⟩
theorem mem_rof {n : Nat} {l : List (Int × Int)} (h : l.all (goodE n) = true) (e : Int × Int) : e ∈ l.foldl (rH n) [] ↔ e ∈ l := by
 have gen : ∀ (l h0 : List (Int × Int)), l.all (goodE n) = true → (e ∈ l.foldl (rH n) h0 ↔ e ∈ h0 ∨ e ∈ l) := by
  intro l
  induction l with
  | nil => intro h0 _; simp
  | cons x l ih =>
   intro h0 hg;rw [List.all_cons, Bool.and_eq_true] at hg;rw [List.foldl_cons, ih _ hg.2];have hx : e ∈ rH n h0 x ↔ e ∈ h0 ∨ e = x := by
    unfold rH rB;have h1 := hg.1;unfold goodE at h1;rw [h1, Bool.true_and]
    by_cases hin : (x.1, x.2) ∈ h0
    ·rw [decide_eq_true hin, if_neg (by decide)]
     constructor
     ·exact .inl
     ·rintro (h | rfl)
      ·exact h
      ·exact hin
    ·rw [decide_eq_false hin, if_pos (by decide), List.mem_append];simp
   rw [hx, List.mem_cons, or_assoc]
 rw [gen l [] h];simp
theorem mem_nextL {n : Nat} {h : List (Int × Int)} {a : Int} {m : Nat} : (m : Int) ∈ nextL n h a ↔ m < n ∧ (a, (m : Int)) ∈ h := by
 unfold nextL;rw [List.mem_map]
 constructor
 ·rintro ⟨b, hb, he⟩;obtain rfl : b = m := by omega
  obtain ⟨h1, h2⟩ := List.mem_filter.1 hb;exact ⟨List.mem_range.1 h1, by simpa using h2⟩
 ·rintro ⟨h1, h2⟩;exact ⟨m, List.mem_filter.2 ⟨List.mem_range.2 h1, by simpa using h2⟩, rfl⟩
theorem mem_backL {n : Nat} {h : List (Int × Int)} {b : Int} {m : Nat} : (m : Int) ∈ backL n h b ↔ m < n ∧ ((m : Int), b) ∈ h := by
 unfold backL;rw [List.mem_map]
 constructor
 ·rintro ⟨a, ha, he⟩;obtain rfl : a = m := by omega
  obtain ⟨h1, h2⟩ := List.mem_filter.1 ha;exact ⟨List.mem_range.1 h1, by simpa using h2⟩
 ·rintro ⟨h1, h2⟩;exact ⟨m, List.mem_filter.2 ⟨List.mem_range.2 h1, by simpa using h2⟩, rfl⟩
theorem nextL_range {n : Nat} {h : List (Int × Int)} {a : Int} : ∀ z ∈ nextL n h a, 0 ≤ z ∧ z < (n : Int) := fun z hz => by
 unfold nextL at hz;obtain ⟨b, hb, rfl⟩ := List.mem_map.1 hz;have := List.mem_range.1 (List.mem_filter.1 hb).1;omega
theorem backL_range {n : Nat} {h : List (Int × Int)} {a : Int} : ∀ z ∈ backL n h a, 0 ≤ z ∧ z < (n : Int) := fun z hz => by
 unfold backL at hz;obtain ⟨b, hb, rfl⟩ := List.mem_map.1 hz;have := List.mem_range.1 (List.mem_filter.1 hb).1;omega
theorem next_ed {n : Nat} {l h : List (Int × Int)} (w : WfE n l) (hs : ∀ e, e ∈ h ↔ e ∈ l) (i m : Nat) : decide ((m : Int) ∈ nextL n h (i : Int)) = edB l i m := by
 unfold edB;rw [decide_eq_decide, mem_nextL, hs];exact ⟨fun h => h.2, fun h => ⟨(wf_lt w h).2, h⟩⟩
theorem back_ed {n : Nat} {l h : List (Int × Int)} (w : WfE n l) (hs : ∀ e, e ∈ h ↔ e ∈ l) (i m : Nat) : decide ((m : Int) ∈ backL n h (i : Int)) = edB l m i := by
 unfold edB;rw [decide_eq_decide, mem_backL, hs];exact ⟨fun h => h.2, fun h => ⟨(wf_lt w h).1, h⟩⟩
theorem may_wf {n : Int} {l : List (Int × Int)} (h : mayL n l = true) : ∃ q : Nat, n = q ∧ q ≤ 500 ∧ WfE q l ∧ l.all (goodE q) = true := by
 unfold mayL at h;rw [Bool.and_eq_true, decide_eq_true_eq] at h;obtain ⟨⟨h1, h2⟩, h3⟩ := h;refine ⟨n.toNat, by omega, by omega, wf_good h3, h3⟩
open Go.RowKit
open Go.Lib
attribute [local go_sem ↓] Go.wp_at_zero Go.wp_at_succ
theorem hasInt_any (A : Option Addr) (n c B : Nat) (zs : List Int) (x : Int) (w : World) (hn : zs.length = n) (hnm : n ≤ 1000000) (hA : Row w B A (zs.map (Value.int .i64))) :
  Calls Tryd.prog 27 #[.slice A n c, .int .i64 x] w fun e w' => e = .returned (.bool (decide (x ∈ zs))) ∧ w = w' := by
 have HA := Hd hA;have HN := Hd hn;clear hA hn;go_enter Tryd.func27, Tryd.ntmps27;go_wp2_with fail
 go_loopw [5] (fun iv wr => ∃ k : Nat, iv = .int .i64 k ∧ k ≤ n ∧ Hid (∀ j y, j < k → zs[j]? = some y → y ≠ x) ∧ wr = w) (fun iv _ => n - (intOf iv).toNat)
 case atStart => exact ⟨0, rfl, by omega, Hd (fun j y h => by omega), rfl⟩
 case round =>
  obtain ⟨k, rfl, hk, hno, rfl⟩ := hrel
  by_cases hlt : k < n
  ·obtain ⟨b, off, rfl, -, hbw, hc⟩ := HA.out.open_ (k := k) (by rw [List.length_map, HN.out]; exact hlt);obtain ⟨y, hy⟩ : ∃ y, zs[k]? = some y := ⟨_, List.getElem?_eq_getElem (by rw [HN.out]; exact hlt)⟩;have hcy : wr.cell? ⟨b, off + k, none⟩ = some (.int .i64 y) := hc k _ (by rw [List.getElem?_map, hy]; rfl);have h01 : (k : Int) < (n : Int) := by omega
   have hk0 : (0 : Int) ≤ (k : Int) := Int.natCast_nonneg _;have hwk : IntKind.i64.wrap ((k : Int) + 1) = (k : Int) + 1 := IntWalk.i64_in _ (by omega);have HY := Hd hy;clear hc hy
   by_cases hxy : y = x
   ·subst hxy;have HM : Hid (decide (y ∈ zs) = true) := Hd (decide_eq_true (List.mem_of_getElem? HY.out));go_wp2
    go_ret
    exact ⟨by rw [HM.out]; rfl, rfl⟩
   ·have hb : (y == x) = false := by simpa using hxy
    have HXY := Hd hxy;clear hxy;go_wp2
    go_roundw
    case rel =>
     refine ⟨k + 1, by go_num, by omega, Hd (fun j y' hj hy' => ?_), trivial⟩
     by_cases h : j < k
     ·exact hno.out j y' h hy'
     ·obtain rfl : j = k := by omega
      rw [HY.out] at hy';obtain rfl := Option.some.inj hy';exact HXY.out
    case measure => simp [intOf]; omega
  ·have hkn : k = n := by omega
   subst hkn;have hd : decide ((k : Int) < (k : Int)) = false := by simp
   have H : Hid (decide (x ∈ zs) = false) := Hd (decide_eq_false (fun hm => by
    obtain ⟨j, hj⟩ := List.mem_iff_getElem?.1 hm;exact hno.out j x (by rw [← HN.out]; exact (List.getElem?_eq_some_iff.1 hj).1) hj rfl))
   go_wp2
   go_ret
   exact ⟨by rw [H.out]; rfl, rfl⟩
end Go.Proofs.YtlnlppabeddclaaDoor
namespace Go.Proofs.YtlnlppabeddclaaDoor
open Go.RowKit
theorem ints_any (A : Option Addr) (n c : Nat) (xs : List Value) (w : World) (hr : Row w w.heap.size A xs) (hl : xs.length = n) (h1 : ∀ u ∈ xs, u.oneCell' = true) (hm : n ≤ 1000000) :
  Calls Tryd.prog 13 #[.slice A n c] w fun e w' => ∃ v, e = .returned v ∧ w'.ownsRow w.heap.size 3 1 v n xs ∧ Only [] w w' := by
 obtain ⟨i0, hi, hz0, hz1, hz2⟩ := info_parts info_int;have HR := Hd hr;have HL := Hd hl;clear hr hl;go_enter Tryd.func13, Tryd.ntmps13;go_wp2_with (at_builtin; refine wpList_append_row _ rfl (.tmp 3) (.tmp 4) _ rfl w.heap.size 3 i0 _ 1 8 Tryd.underlying25 hi hz0 hz1 hz2 rfl (by omega) (.slice (some ⟨w.heap.size, 0, none⟩) 0 0) 0 [] rfl (World.ownsRow_lit w #[] 0 (Nat.le_refl _) (by unfold maxLen; omega) rfl) w.heap.size A n c xs rfl (by rw [HL.out, Nat.mul_one]) (HR.out.only ((Only.refl [] _).alloc _) (by simp)) h1 (by unfold maxLen; omega) (by omega) (by simp) ?_; intro v w1 hown hgrow hat)
 go_ret
 refine ⟨v, rfl, by simpa using hown, ((Only.refl [] w).alloc _).step (Only.of_grown (S := [w.heap.size]) hgrow (fun g hg _ => by simp [Value.ownBlock] at hg; simp [hg])) (fun i hi hlt => by simp at hi; omega)⟩
end Go.Proofs.YtlnlppabeddclaaDoor
