/- Parts. -/
import Derived.Test.YtjfbeeogiejopaaGreatDoorWorldNextCardK5
import Derived.Lib.SlicesCompact
set_option maxRecDepth 10000
set_option maxHeartbeats 16000000
set_option linter.unusedVariables false
set_option linter.unusedSimpArgs false
namespace Go.Proofs.YtjfbeeogiejopaaGreatDoor
open Go.RowKit
open Go.Lib hiding intOf
attribute [local go_sem ↓] Go.wp_at_zero Go.wp_at_succ
theorem of_any (s : ByteArray) (w : World) (hs : s.size ≤ 65536) (hT : UTabs w) :
    Calls Tryz.prog 98 #[.string s] w fun e w' => Only [] w w' ∧
      (((∀ x ∈ linesOf (by_ s), validD x = true) ∧ ∃ V xs, e = .returned (.tuple #[V, .int .i64 0, .int .i64 0]) ∧ w'.ownsRow w.heap.size 9 1 V xs.length (strs xs) ∧ xs.map by_ = linesOf (by_ s)) ∨
       (∃ (i : Nat) (x : List UInt8), (linesOf (by_ s))[i]? = some x ∧ validD x = false ∧ (∀ j y, j < i → (linesOf (by_ s))[j]? = some y → validD y = true) ∧ e = .returned (.tuple #[.slice none 0 0, .int .i64 ((i : Int) + 1), .int .i64 5]))) := by
  have HC := Hd (cut_any s w hs)
  have HT := Hd hT
  have hs1 : ¬ (65536 : Int) < (s.size : Int) := by omega
  have hlm := cutL_mem (by_ s) []
  have hln := cutL_len (by_ s) []
  rw [by_length] at hln
  have HLM := Hd hlm
  clear hT hlm
  go_enter Tryz.func98, Tryz.ntmps98
  go_wp2_with fail
  refine (HC.out).mono ?_
  rintro e w1 ⟨V, xs, ⟨rfl, hown, hxs⟩, hO⟩
  obtain ⟨A, c, rfl, hc1, hc2, hxl, hrow⟩ := own_row hown
  obtain ⟨n, hn⟩ : ∃ n, n = xs.length := ⟨_, rfl⟩
  have hnl : (linesOf (by_ s)).length = n := by rw [← hxs, List.length_map, hn]
  unfold linesOf at hnl
  have hn65 : n ≤ 65537 := by omega
  have HXS := Hd hxs
  have HOWN := Hd hown
  have HROW := Hd hrow
  have HO := Hd hO
  have HN := Hd hn
  rw [← hn] at hc1 ⊢
  clear hxs hown hrow hO hxl hnl hln hn
  go_wp2
  go_loopw [15] (fun i wr => ∃ k : Nat, i = .int .i64 k ∧ k ≤ n ∧ Hid (∀ j y, j < k → (linesOf (by_ s))[j]? = some y → validD y = true) ∧ Hid (Only [] w1 wr)) (fun i _ => n - (intOf i).toNat)
  case atStart => exact ⟨0, rfl, by omega, Hd (fun j y h => by omega), Hd (Only.refl _ _)⟩
  case round =>
    obtain ⟨k, rfl, hk, HV, HO1⟩ := hrel
    by_cases hlt : k < n
    · have hk1 : (k : Int) < (n : Int) := by omega
      have hk0 : (0 : Int) ≤ (k : Int) := Int.natCast_nonneg _
      obtain ⟨b, off, rfl, hbB, hbw, hcell⟩ := HROW.out.open_ (k := k) (by rw [strs, List.length_map, ← HN.out]; exact hlt)
      obtain ⟨x, hx⟩ : ∃ x, xs[k]? = some x := ⟨_, List.getElem?_eq_getElem (by rw [← HN.out]; exact hlt)⟩
      have hck : wr.cell? ⟨b, off + k, none⟩ = some (.string x) := (HO1.out.cell (p := ⟨b, off + k, none⟩) hbw (by simp)).trans (hcell k _ (by rw [strs, List.getElem?_map, hx]; rfl))
      have hlx : (linesOf (by_ s))[k]? = some (by_ x) := by rw [← HXS.out, List.getElem?_map, hx]; rfl
      have hxs : x.size ≤ 9223372036854775807 := by
        have := HLM.out (by_ x) (List.mem_of_getElem? hlx)
        rw [by_length, by_length] at this
        simp at this
        omega
      have HVC := Hd (valid_any x wr hxs ((HT.out.only HO.out).only HO1.out))
      have HLX := Hd hlx
      clear hcell hx hlx hxs
      obtain ⟨vb, hvb⟩ : ∃ vb, vb = validD (by_ x) := ⟨_, rfl⟩
      rw [← hvb] at HVC
      have HVB := Hd hvb
      clear hvb
      cases vb with
      | true =>
        go_wp2_with fail
        refine (HVC.out).mono ?_
        rintro e w2 ⟨rfl, hO2⟩
        have HO2 := Hd (HO1.out.trans hO2)
        have HV2 : Hid (∀ j y, j < k + 1 → (linesOf (by_ s))[j]? = some y → validD y = true) := Hd (fun j y hj hy => by
          by_cases hjk : j < k
          · exact HV.out j y hjk hy
          · have : j = k := by omega
            subst this
            rw [HLX.out] at hy
            obtain rfl := Option.some.inj hy
            exact HVB.out.symm)
        clear hO2
        go_wp2
        go_roundw
        case rel => exact ⟨k + 1, by go_num, by omega, HV2, HO2⟩
        case measure => simp [intOf]; omega
      | false =>
        have hwk : IntKind.i64.wrap ((k : Int) + 1) = (k : Int) + 1 := IntWalk.i64_in _ (by omega)
        go_wp2_with fail
        refine (HVC.out).mono ?_
        rintro e w2 ⟨rfl, hO2⟩
        have HO2 := Hd (HO1.out.trans hO2)
        clear hO2
        go_wp2
        go_ret3
        exact ⟨HO.out.trans HO2.out, .inr ⟨k, by_ x, HLX.out, HVB.out.symm, HV.out, rfl⟩⟩
    · have hkn : k = n := by omega
      subst hkn
      have hd : decide ((k : Int) < (k : Int)) = false := by simp
      go_wp2
      go_ret3
      · refine ⟨HO.out.trans HO1.out, .inl ⟨fun x hx => ?_, .slice A k c, xs, rfl, ?_, HXS.out⟩⟩
        · obtain ⟨j, hj⟩ := List.mem_iff_getElem?.1 hx
          have hjl : j < (linesOf (by_ s)).length := (List.getElem?_eq_some_iff.1 hj).1
          rw [← HXS.out, List.length_map, ← HN.out] at hjl
          exact HV.out j x hjl hj
        · have := own_only HOWN.out HO1.out (by simp)
          rw [← HN.out] at this ⊢
          exact this
def logOf : List ByteArray → Int → List Ev6 → List Ev6 × Int × Int
 | [], _, acc => (acc, 0, 0)
 | row :: rest, i, acc => if stepE acc row = 0 then logOf rest (i + 1) (stepL acc i row) else ([], i, stepE acc row)
def rowsOf (s : ByteArray) : List ByteArray := (linesOf (by_ s)).map fun l => ⟨l.toArray⟩
def logParse (s : ByteArray) : List Ev6 × Int × Int :=
 if 65536 < s.size then ([], 0, 6) else
  match (linesOf (by_ s)).findIdx? (fun x => !validD x) with
  | some i => ([], (i : Int) + 1, 5)
  | none => logOf (rowsOf s) 1 []
theorem stepL_len (l : List Ev6) (num : Int) (row : ByteArray) (h : l.length ≤ 1000) : (stepL l num row).length ≤ 1000 := by
 unfold stepL
 split
 ·rename_i hc
  rw [List.length_append];have := hc.2;simp;omega
 ·exact h
theorem rows_eq {s : ByteArray} {xs : List ByteArray} (h : xs.map by_ = linesOf (by_ s)) : rowsOf s = xs := by
 unfold rowsOf;rw [← h, List.map_map];have : ((fun l => (⟨l.toArray⟩ : ByteArray)) ∘ by_) = id := by
  funext x
  exact by_inj (by show (by_ x).toArray.toList = by_ x; simp)
 rw [this, List.map_id]
theorem own_lowerP {w : World} {base base' : Nat} {e : TypeId} {size : Nat} {v : Value} {n : Nat} {xs : List Value} (h : w.ownsRow base e size v n xs) (hb : base' ≤ base) : w.ownsRow base' e size v n xs := by
 obtain ⟨hl, hv⟩ := h;refine ⟨hl, ?_⟩;rcases hv with hv | ⟨g, cap, cur, rfl, hg, rest⟩
 ·exact .inl hv
 ·exact .inr ⟨g, cap, cur, rfl, Nat.le_trans hb hg, rest⟩
theorem row_nil (w : World) (base : Nat) : w.ownsRow base 128 6 (.slice none 0 0) 0 (logC []) := ⟨rfl, .inl ⟨rfl, rfl⟩⟩
theorem logparse_any (s : ByteArray) (w : World) (hs : s.size ≤ 65536) (hrow : ∀ x ∈ linesOf (by_ s), x.length ≤ 65535) (hT : UTabs w) (hM : MLen w) (hV : Verbs w) :
  Calls Tryz.prog 75 #[.string s] w fun e w' => Only [] w w' ∧ ∃ V, e = .returned (.tuple #[V, .int .i64 (logParse s).2.1, .int .i64 (logParse s).2.2]) ∧ w'.ownsRow w.heap.size 128 6 V (logParse s).1.length (logC (logParse s).1) := by
 obtain ⟨i0, hi, hz0, hz1, hz2⟩ := info_parts info_event;have HOF := Hd (of_any s w hs hT);have HWR := Hd (fun num row Bl V (l : List Ev6) w' (h : row.size ≤ 65535) (hO : Only [] w w') (hB : Blk w' Bl 100 #[V]) (hown : w'.ownsRow Bl 128 6 V l.length (logC l)) (hl : l.length ≤ 1000) =>
  wrong_any num row Bl Bl V l w' h (hT.only hO) (hM.only hO) (hV.only hO) hB hown (Nat.le_of_lt hB.lt) hl)
 have hmf : ∀ (fn : Fn) (first cap : Array Value) (w : World), (Instr.makeFunc fn first cap).run Tryz.prog w = .ok (.func fn first cap) w := fun _ _ _ _ => rfl;obtain ⟨r, hr⟩ : ∃ r, r = logParse s := ⟨_, rfl⟩;rw [← hr];have HR := Hd hr;have HROWS := Hd hrow;have hln := cutL_len (by_ s) [];rw [by_length] at hln;clear hr hT hM hV hrow;go_enter Tryz.func75, Tryz.ntmps75;go_wp2_with fail
 refine (HOF.out).mono ?_;rintro e w1 ⟨O1, ⟨hval, V0, xs, rfl, hown0, hxs⟩ | ⟨i, x, hx, hbad, hfirst, rfl⟩⟩
 ·have hidx : (linesOf (by_ s)).findIdx? (fun x => !validD x) = none := by
   rw [List.findIdx?_eq_none_iff];intro x hx;rw [hval x hx]
   rfl
  have hr : r = logOf xs 1 [] := by
   rw [HR.out];unfold logParse;rw [if_neg (by omega), hidx, rows_eq hxs]
  have HXS : Hid (∀ x ∈ xs, x.size ≤ 65535) := Hd (fun x hx => by
   have := HROWS.out (by_ x) (by rw [← hxs]; exact List.mem_map_of_mem hx)
   rwa [by_length] at this)
  have hnl : xs.length ≤ 65537 := by
   have := congrArg List.length hxs;rw [List.length_map] at this;unfold linesOf at this;omega
  obtain ⟨A0, c0, rfl, -, -, -, hrow0⟩ := own_row hown0;generalize hn : xs.length = n at *;have HN := Hd hn;have HRR := Hd hr;have HO1 := Hd O1;have HROW := Hd hrow0;have HB1 := Hd (Blk.made w1 100 #[.slice none 0 0]);have hsz1 := O1.size;clear hval hown0 hxs hidx HR HROWS hn hr O1 hrow0 hln;generalize hbl : w1.heap.size = Bl at *;go_wp2_with fail
  go_loopw [26] (fun iv wr => ∃ (k : Nat) (V : Value) (acc : List Ev6), iv = .int .i64 k ∧ k ≤ n ∧ acc.length ≤ 1000 ∧ Hid (r = logOf (xs.drop k) ((k : Int) + 1) acc) ∧ Hid (Blk wr Bl 100 #[V]) ∧ Hid (wr.ownsRow Bl 128 6 V acc.length (logC acc)) ∧ Hid (Only [] w wr) ∧ Hid (Only [Bl] w1 wr)) (fun iv _ => n - (intOf iv).toNat)
  case atStart => exact ⟨0, .slice none 0 0, [], rfl, by omega, by simp, HRR, HB1, Hd (row_nil _ _), Hd (HO1.out.alloc _), Hd ((Only.refl _ w1).alloc _)⟩
  case round =>
   obtain ⟨k, V, acc, rfl, hk, hacc, hR, hB, hown, hO, hOB⟩ := hrel
   by_cases hlt : k < n
   ·have h01 : (k : Int) < (n : Int) := by omega
    have hk0 : (0 : Int) ≤ (k : Int) := Int.natCast_nonneg _;have hwk : IntKind.i64.wrap ((k : Int) + 1) = (k : Int) + 1 := IntWalk.i64_in _ (by omega);obtain ⟨b, off, rfl, hbB, hbw, hcell⟩ := HROW.out.open_ (k := k) (by rw [strs, List.length_map, HN.out]; exact hlt);obtain ⟨x, hx⟩ : ∃ x, xs[k]? = some x := ⟨_, List.getElem?_eq_getElem (by rw [HN.out]; exact hlt)⟩;have hck : wr.cell? ⟨b, off + k, none⟩ = some (.string x) := (hOB.out.cell (p := ⟨b, off + k, none⟩) hbw (by simp only [List.mem_singleton]; omega)).trans (hcell k _ (by rw [strs, List.getElem?_map, hx]; rfl));have HW := Hd (HWR.out ((k : Int) + 1) x Bl V acc wr (HXS.out x (List.mem_of_getElem? hx)) hO.out hB.out hown.out hacc);have hstep : logOf (xs.drop k) ((k : Int) + 1) acc = if stepE acc x = 0 then logOf (xs.drop (k + 1)) (((k + 1 : Nat) : Int) + 1) (stepL acc ((k : Int) + 1) x) else ([], (k : Int) + 1, stepE acc x) := by
     obtain ⟨h1, h2⟩ := List.getElem?_eq_some_iff.1 hx;rw [List.drop_eq_getElem_cons h1, h2]
     rfl
    have hlen := stepL_len acc ((k : Int) + 1) x hacc;have HST := Hd (hR.out.trans hstep);generalize stepL acc ((k : Int) + 1) x = acc2 at *;generalize stepE acc x = E at *;clear hcell hx hstep;go_wp2_with fail
    refine (HW.out).mono ?_;rintro e w2 ⟨rfl, V2, hB2, hown2, hO2⟩;have HB2 := Hd hB2;have HOWN2 := Hd hown2;have hO3 : Only [] w w2 := hO.out.step hO2 (fun i hi hl => by
     rcases List.mem_cons.1 hi with rfl | h
     ·omega
     ·exact own_new hown.out i h (by omega))
    have hO4 : Only [Bl] w1 w2 := hOB.out.step hO2 (fun i hi hl => by
     rcases List.mem_cons.1 hi with rfl | h
     ·simp
     ·exact own_new hown.out i h (by omega))
    have HO3 := Hd hO3;have HO4 := Hd hO4;clear hB2 hown2 hO2 hO3 hO4 HW
    by_cases hE : E = 0
    ·subst hE;have HR2 : Hid (r = logOf (xs.drop (k + 1)) (((k + 1 : Nat) : Int) + 1) acc2) := Hd (by rw [HST.out, if_pos rfl]);go_wp2
     go_roundw
     case rel => exact ⟨k + 1, V2, acc2, by go_num, by omega, hlen, HR2, HB2, HOWN2, HO3, HO4⟩
     case measure => simp [intOf]; omega
    ·have hE' : (E != 0) = true := by simpa using hE
     obtain rfl : r = ([], (k : Int) + 1, E) := by rw [HST.out, if_neg hE]
     clear HST hE;go_wp2
     go_ret3
     exact ⟨HO3.out, _, rfl, row_nil _ _⟩
   ·have hkn : k = n := by omega
    subst hkn;have hd : decide ((k : Int) < (k : Int)) = false := by simp
    obtain rfl : r = (acc, 0, 0) := by rw [hR.out, List.drop_of_length_le (by rw [HN.out]; exact Nat.le_refl _)]; rfl
    have lB := hB.out.lt;have cB := hB.out.at_ 0;simp at cB;go_wp2
    go_ret3
    exact ⟨hO.out, V, rfl, own_lowerP hown.out hsz1⟩
 ·have hidx : (linesOf (by_ s)).findIdx? (fun x => !validD x) = some i := by
   rw [List.findIdx?_eq_some_iff_getElem];obtain ⟨h1, h2⟩ := List.getElem?_eq_some_iff.1 hx;refine ⟨h1, by rw [h2, hbad]; rfl, fun j hj => ?_⟩;have := hfirst j _ hj (List.getElem?_eq_getElem (by omega));rw [this];simp
  obtain rfl : r = ([], (i : Int) + 1, 5) := by
   rw [HR.out];unfold logParse;rw [if_neg (by omega), hidx]
  have HO1 := Hd O1;clear hx hbad hfirst hidx HR O1 HROWS;go_wp2
  go_ret3
  exact ⟨HO1.out, _, rfl, row_nil _ _⟩
end Go.Proofs.YtjfbeeogiejopaaGreatDoor
namespace Go.Proofs.YtjfbeeogiejopaaGreatDoor
open Go.RowKit
open Go.Lib
structure Op4 where
 wr : Bool
 key : Int
 vk : Int
 vn : Int
def Op4.c (x : Op4) : List Value := [.bool x.wr, .int .i64 x.key, .int .i64 x.vk, .int .i64 x.vn]
def opC (l : List Op4) : List Value := l.flatMap Op4.c
structure Tx where
 s : Int
 f : Int
 ops : List Op4
structure TxA where
 t : Tx
 A : Option Addr
 cp : Nat
def TxA.c (x : TxA) : List Value := [.int .i64 x.t.s, .int .i64 x.t.f, .slice x.A x.t.ops.length x.cp]
def txC (l : List TxA) : List Value := l.flatMap TxA.c
structure Hst where
 ss : List ByteArray
 ks : List ByteArray
 l : List Tx
theorem flat_len {α : Type} (f : α → List Value) (n : Nat) (h : ∀ x, (f x).length = n) (l : List α) : (l.flatMap f).length = l.length * n := by
 induction l with
 | nil => simp
 | cons x l ih => rw [List.flatMap_cons, List.length_append, ih, h, List.length_cons, Nat.add_mul, Nat.one_mul, Nat.add_comm]
theorem flat_get {α : Type} (f : α → List Value) (n : Nat) (h : ∀ x, (f x).length = n) : ∀ (l : List α) (i : Nat) (x : α), l[i]? = some x → ∀ j, j < n → (l.flatMap f)[i * n + j]? = (f x)[j]?
 | [], i, x, hx, _, _ => by simp at hx
 | y :: l, 0, x, hx, j, hj => by
  simp at hx;subst hx;rw [List.flatMap_cons, List.getElem?_append_left (by rw [h]; omega), Nat.zero_mul, Nat.zero_add]
 | y :: l, i + 1, x, hx, j, hj => by
  have := flat_get f n h l i x (by simpa using hx) j hj;rw [List.flatMap_cons, List.getElem?_append_right (by rw [h, Nat.add_mul]; omega), ← this]
  congr 1
  rw [h, Nat.add_mul];omega
theorem opC_len (l : List Op4) : (opC l).length = l.length * 4 := flat_len _ 4 (fun _ => rfl) l
theorem txC_len (l : List TxA) : (txC l).length = l.length * 3 := flat_len _ 3 (fun _ => rfl) l
theorem opC_get (l : List Op4) (i : Nat) (x : Op4) (h : l[i]? = some x) : ∀ j, j < 4 → (opC l)[i * 4 + j]? = x.c[j]? := flat_get _ 4 (fun _ => rfl) l i x h
theorem txC_get (l : List TxA) (i : Nat) (x : TxA) (h : l[i]? = some x) : ∀ j, j < 3 → (txC l)[i * 3 + j]? = x.c[j]? := flat_get _ 3 (fun _ => rfl) l i x h
theorem opC_append (l k : List Op4) : opC (l ++ k) = opC l ++ opC k := by simp [opC]
theorem txC_append (l k : List TxA) : txC (l ++ k) = txC l ++ txC k := by simp [txC]
theorem opC_take (l : List Op4) (n : Nat) : opC (l.take n) = (opC l).take (n * 4) := by
 induction l generalizing n with
 | nil => simp [opC]
 | cons x l ih =>
  cases n with
  | zero => simp [opC]
  | succ n =>
   rw [List.take_succ_cons]
   show x.c ++ opC (l.take n) = (x.c ++ opC l).take ((n + 1) * 4)
   rw [ih, show (n + 1) * 4 = x.c.length + n * 4 by (show _ = 4 + n * 4; omega), List.take_length_add_append]
theorem one_opC (l : List Op4) : ∀ u ∈ opC l, u.oneCell' = true := by
 intro u hu;simp only [opC, List.mem_flatMap, Op4.c, List.mem_cons, List.not_mem_nil, or_false] at hu;obtain ⟨e, _, rfl | rfl | rfl | rfl⟩ := hu <;> rfl
structure OpAt (w : World) (b o : Nat) (x : Op4) : Prop where
 c0 : w.cell? ⟨b, o, none⟩ = some (.bool x.wr)
 c1 : w.cell? ⟨b, o + 1, none⟩ = some (.int .i64 x.key)
 c2 : w.cell? ⟨b, o + 2, none⟩ = some (.int .i64 x.vk)
 c3 : w.cell? ⟨b, o + 3, none⟩ = some (.int .i64 x.vn)
theorem OpAt.only {S : List Nat} {w w' : World} {b o : Nat} {x : Op4} (h : OpAt w b o x) (ho : Only S w w') (hb : b < w.heap.size) (hs : b ∉ S) : OpAt w' b o x :=
 ⟨(ho.cell (p := ⟨b, o, none⟩) hb hs).trans h.c0, (ho.cell (p := ⟨b, o + 1, none⟩) hb hs).trans h.c1, (ho.cell (p := ⟨b, o + 2, none⟩) hb hs).trans h.c2, (ho.cell (p := ⟨b, o + 3, none⟩) hb hs).trans h.c3⟩
theorem row_op {w : World} {B : Nat} {A : Option Addr} {l : List Op4} (h : Row w B A (opC l)) {k : Nat} {x : Op4} (hk : l[k]? = some x) : ∃ b off, A = some ⟨b, off, none⟩ ∧ b < B ∧ b < w.heap.size ∧ OpAt w b (off + k * 4) x := by
 have hlt := (List.getElem?_eq_some_iff.1 hk).1;obtain ⟨b, off, rfl, h1, h2, hc⟩ := h.open_ (k := k * 4) (by rw [opC_len]; omega);have g := opC_get l k x hk;refine ⟨b, off, rfl, h1, h2, ⟨?_, ?_, ?_, ?_⟩⟩
 ·exact hc (k * 4) _ (g 0 (by omega))
 ·rw [Nat.add_assoc]; exact hc _ _ (g 1 (by omega))
 ·rw [Nat.add_assoc]; exact hc _ _ (g 2 (by omega))
 ·rw [Nat.add_assoc]; exact hc _ _ (g 3 (by omega))
structure TxAt (w : World) (b o : Nat) (x : TxA) : Prop where
 c0 : w.cell? ⟨b, o, none⟩ = some (.int .i64 x.t.s)
 c1 : w.cell? ⟨b, o + 1, none⟩ = some (.int .i64 x.t.f)
 c2 : w.cell? ⟨b, o + 2, none⟩ = some (.slice x.A x.t.ops.length x.cp)
theorem TxAt.only {S : List Nat} {w w' : World} {b o : Nat} {x : TxA} (h : TxAt w b o x) (ho : Only S w w') (hb : b < w.heap.size) (hs : b ∉ S) : TxAt w' b o x :=
 ⟨(ho.cell (p := ⟨b, o, none⟩) hb hs).trans h.c0, (ho.cell (p := ⟨b, o + 1, none⟩) hb hs).trans h.c1, (ho.cell (p := ⟨b, o + 2, none⟩) hb hs).trans h.c2⟩
structure TxOk (w : World) (B : Nat) (x : TxA) : Prop where
 row : Row w B x.A (opC x.t.ops)
 le : x.t.ops.length ≤ x.cp
 cap : x.cp ≤ maxLen
theorem TxOk.only {S : List Nat} {w w' : World} {B : Nat} {x : TxA} (h : TxOk w B x) (ho : Only S w w') (hS : ∀ i ∈ S, B ≤ i) : TxOk w' B x := ⟨h.row.only ho hS, h.le, h.cap⟩
theorem TxOk.up {w : World} {B : Nat} {x : TxA} (h : TxOk w B x) : TxOk w w.heap.size x := ⟨row_up h.row, h.le, h.cap⟩
def LRow (w : World) (B : Nat) (A : Option Addr) (l : List Tx) : Prop := ∃ xs : List TxA, xs.map TxA.t = l ∧ Row w B A (txC xs) ∧ ∀ x ∈ xs, TxOk w B x
theorem LRow.only {S : List Nat} {w w' : World} {B : Nat} {A : Option Addr} {l : List Tx} (h : LRow w B A l) (ho : Only S w w') (hS : ∀ i ∈ S, B ≤ i) : LRow w' B A l := by
 obtain ⟨xs, h1, h2, h3⟩ := h;exact ⟨xs, h1, h2.only ho hS, fun x hx => (h3 x hx).only ho hS⟩
theorem LRow.up {w : World} {B : Nat} {A : Option Addr} {l : List Tx} (h : LRow w B A l) : LRow w w.heap.size A l := by
 obtain ⟨xs, h1, h2, h3⟩ := h;exact ⟨xs, h1, row_up h2, fun x hx => (h3 x hx).up⟩
theorem LRow.nil {w : World} {B : Nat} {A : Option Addr} : LRow w B A [] := ⟨[], rfl, .inl rfl, fun x hx => by cases hx⟩
theorem LRow.at_ {w : World} {B : Nat} {A : Option Addr} {l : List Tx} (h : LRow w B A l) {k : Nat} {t : Tx} (hk : l[k]? = some t) :
  ∃ b off A' cp, A = some ⟨b, off, none⟩ ∧ b < B ∧ b < w.heap.size ∧ TxAt w b (off + k * 3) ⟨t, A', cp⟩ ∧ TxOk w B ⟨t, A', cp⟩ := by
 obtain ⟨xs, rfl, h2, h3⟩ := h;rw [List.getElem?_map] at hk
 cases hx : xs[k]? with
 | none => rw [hx] at hk; cases hk
 | some x =>
  rw [hx] at hk;simp at hk;subst hk;have hlt := (List.getElem?_eq_some_iff.1 hx).1;obtain ⟨b, off, rfl, h4, h5, hc⟩ := h2.open_ (k := k * 3) (by rw [txC_len]; omega);have g := txC_get xs k x hx;refine ⟨b, off, x.A, x.cp, rfl, h4, h5, ⟨?_, ?_, ?_⟩, h3 x (List.mem_of_getElem? hx)⟩
  ·exact hc (k * 3) _ (g 0 (by omega))
  ·rw [Nat.add_assoc]; exact hc _ _ (g 1 (by omega))
  ·rw [Nat.add_assoc]; exact hc _ _ (g 2 (by omega))
structure HAt (w : World) (B : Nat) (A0 A1 A2 : Option Addr) (h : Hst) : Prop where
 r0 : Row w B A0 (strs h.ss)
 r1 : Row w B A1 (strs h.ks)
 r2 : LRow w B A2 h.l
theorem HAt.only {S : List Nat} {w w' : World} {B : Nat} {A0 A1 A2 : Option Addr} {h : Hst} (g : HAt w B A0 A1 A2 h) (ho : Only S w w') (hS : ∀ i ∈ S, B ≤ i) : HAt w' B A0 A1 A2 h := ⟨g.r0.only ho hS, g.r1.only ho hS, g.r2.only ho hS⟩
theorem HAt.up {w : World} {B : Nat} {A0 A1 A2 : Option Addr} {h : Hst} (g : HAt w B A0 A1 A2 h) : HAt w w.heap.size A0 A1 A2 h := ⟨row_up g.r0, row_up g.r1, g.r2.up⟩
def hval (A0 A1 A2 : Option Addr) (n0 n1 n2 c0 c1 c2 : Nat) : Value := .agg #[.slice A0 n0 c0, .slice A1 n1 c1, .slice A2 n2 c2]
structure HSmall (h : Hst) : Prop where
 s : ∀ x ∈ h.ss, x.size ≤ 65537
 k : ∀ x ∈ h.ks, x.size ≤ 65537
 ns : h.ss.length ≤ 1000
 nk : h.ks.length ≤ 1000
 nl : h.l.length ≤ 1000
 no : ∀ t ∈ h.l, t.ops.length ≤ 1000
end Go.Proofs.YtjfbeeogiejopaaGreatDoor
namespace Go.Proofs.YtjfbeeogiejopaaGreatDoor
open Go.Lib
theorem lessL_trans : ∀ x y z : List Nat, lessL x y = true → lessL y z = true → lessL x z = true
 | [], [], _, h, _ => by cases h
 | [], _ :: _, [], _, h => by cases h
 | [], _ :: _, _ :: _, _, _ => rfl
 | _ :: _, [], _, h, _ => by cases h
 | _ :: _, _ :: _, [], _, h => by cases h
 | r :: x, q :: y, t :: z, h1, h2 => by
  unfold lessL at h1 h2 ⊢
  by_cases e1 : r = q
  ·subst e1;rw [if_pos rfl] at h1
   by_cases e2 : r = t
   ·subst e2;rw [if_pos rfl] at h2 ⊢;exact lessL_trans x y z h1 h2
   ·rw [if_neg e2] at h2 ⊢;exact h2
  ·rw [if_neg e1] at h1;have h1 := of_decide_eq_true h1
   by_cases e2 : q = t
   ·subst e2;rw [if_neg e1];exact decide_eq_true h1
   ·rw [if_neg e2] at h2;have h2 := of_decide_eq_true h2;rw [if_neg (by omega)];exact decide_eq_true (by omega)
def lessB (a b : ByteArray) : Bool := lessL (runesL (by_ a)) (runesL (by_ b))
theorem lessB_irr (a : ByteArray) : lessB a a = false := less_irr _
theorem lessB_trans {a b c : ByteArray} (h1 : lessB a b = true) (h2 : lessB b c = true) : lessB a c = true := lessL_trans _ _ _ h1 h2
theorem lessB_asym {a b : ByteArray} (h : lessB a b = true) : lessB b a = false := by
 cases h2 : lessB b a with
 | false => rfl
 | true =>
  have := lessB_trans h h2;rw [lessB_irr] at this
  cases this
theorem name_valid' {s : ByteArray} (h : isName s = true) : validD (by_ s) = true := by
 unfold isName at h;simp only [Bool.and_eq_true] at h;exact h.1.1
theorem lessB_total {a b : ByteArray} (ha : isName a = true) (hb : isName b = true) (h1 : lessB a b = false) (h2 : lessB b a = false) : a = b := by
 by_cases e : runesL (by_ a) = runesL (by_ b)
 ·exact by_inj (runes_inj (name_valid' ha) (name_valid' hb) e)
 ·have := less_one _ _ e;unfold lessB at h1 h2;rw [h1, h2] at this
  cases this
def Rising (l : List ByteArray) : Prop := l.Pairwise fun a b => lessB a b = true
theorem rising_unique : ∀ l m : List ByteArray, Rising l → Rising m → (∀ x, x ∈ l ↔ x ∈ m) → l = m
 | [], [], _, _, _ => rfl
 | [], y :: m, _, _, h => by have := (h y).2 (List.mem_cons_self ..); cases this
 | x :: l, [], _, _, h => by have := (h x).1 (List.mem_cons_self ..); cases this
 | x :: l, y :: m, hl, hm, h => by
  obtain ⟨hx, hl2⟩ := List.pairwise_cons.1 hl;obtain ⟨hy, hm2⟩ := List.pairwise_cons.1 hm;have exy : x = y := by
   rcases List.mem_cons.1 ((h x).1 (List.mem_cons_self ..)) with e | e
   ·exact e
   ·rcases List.mem_cons.1 ((h y).2 (List.mem_cons_self ..)) with e2 | e2
    ·exact e2.symm
    ·have h1 := hy x e;have h2 := hx y e2;rw [lessB_asym h1] at h2
     cases h2
  subst exy;have : l = m := by
   refine rising_unique l m hl2 hm2 fun z => ⟨fun hz => ?_, fun hz => ?_⟩
   ·rcases List.mem_cons.1 ((h z).1 (List.mem_cons_of_mem _ hz)) with e | e
    ·subst e;have := hx z hz;rw [lessB_irr] at this
     cases this
    ·exact e
   ·rcases List.mem_cons.1 ((h z).2 (List.mem_cons_of_mem _ hz)) with e | e
    ·subst e;have := hy z hz;rw [lessB_irr] at this
     cases this
    ·exact e
  rw [this]
def aheadOf (out : List ByteArray) (x : ByteArray) : Nat := (out.takeWhile fun y => lessB y x).length
def insB (out : List ByteArray) (x : ByteArray) : List ByteArray :=
 if isName x = true then (if out[aheadOf out x]? = some x then out else out.take (aheadOf out x) ++ x :: out.drop (aheadOf out x)) else out
def sortB (l : List ByteArray) : List ByteArray := l.foldl insB []
theorem ahead_split (out : List ByteArray) (x : ByteArray) : out.take (aheadOf out x) = out.takeWhile (fun y => lessB y x) ∧ out.drop (aheadOf out x) = out.dropWhile (fun y => lessB y x) := by
 have h := List.takeWhile_append_dropWhile (p := fun y => lessB y x) (l := out);have h1 := congrArg (List.take (out.takeWhile fun y => lessB y x).length) h;have h2 := congrArg (List.drop (out.takeWhile fun y => lessB y x).length) h;rw [List.take_left] at h1;rw [List.drop_left] at h2;exact ⟨h1.symm, h2.symm⟩
structure Names (out : List ByteArray) : Prop where
 rise : Rising out
 name : ∀ x ∈ out, isName x = true
theorem names_nil : Names [] := ⟨List.Pairwise.nil, fun x h => (by cases h)⟩
theorem drop_head {p : ByteArray → Bool} : ∀ {l : List ByteArray} {y : ByteArray} {t : List ByteArray}, l.dropWhile p = y :: t → p y = false
 | x :: l, y, t, h => by
  by_cases hx : p x = true
  ·rw [List.dropWhile_cons_of_pos hx] at h;exact drop_head h
  ·rw [List.dropWhile_cons_of_neg hx] at h;obtain ⟨rfl, -⟩ := List.cons.inj h
   simpa using hx
theorem take_all {p : ByteArray → Bool} : ∀ (l : List ByteArray), ∀ y ∈ l.takeWhile p, p y = true
 | x :: l, y, h => by
  by_cases hx : p x = true
  ·rw [List.takeWhile_cons_of_pos hx] at h;rcases List.mem_cons.1 h with rfl | h
   ·exact hx
   ·exact take_all l y h
  ·rw [List.takeWhile_cons_of_neg hx] at h
   cases h
theorem ins_names {out : List ByteArray} (h : Names out) (x : ByteArray) : Names (insB out x) ∧ ∀ y, y ∈ insB out x ↔ y ∈ out ∨ (y = x ∧ isName x = true) := by
 unfold insB
 by_cases hx : isName x = true
 ·rw [if_pos hx]
  by_cases he : out[aheadOf out x]? = some x
  ·rw [if_pos he];refine ⟨h, fun y => ⟨.inl, ?_⟩⟩;rintro (hy | ⟨rfl, -⟩)
   ·exact hy
   ·exact List.mem_of_getElem? he
  ·rw [if_neg he];obtain ⟨h1, h2⟩ := ahead_split out x;have happ : out.take (aheadOf out x) ++ out.drop (aheadOf out x) = out := List.take_append_drop _ _;have hall := take_all (p := fun y => lessB y x) out;rw [← h1] at hall;have hrest : ∀ y ∈ out.drop (aheadOf out x), lessB x y = true := by
    cases hd : out.drop (aheadOf out x) with
    | nil => intro y hy; cases hy
    | cons z t =>
     have hz : lessB z x = false := drop_head (p := fun y => lessB y x) (by rw [← h2]; exact hd);have hzm : z ∈ out := by rw [← happ, hd]; simp
     have hzx : z ≠ x := fun e => he (by
      have : (out.drop (aheadOf out x))[0]? = some z := by rw [hd]; rfl
      rw [List.getElem?_drop, Nat.add_zero] at this;rw [this, e])
     have hxz : lessB x z = true := by
      cases hc : lessB x z with
      | true => rfl
      | false => exact absurd (lessB_total (h.name z hzm) hx hz hc) hzx
     have hr := h.rise;rw [← happ, hd] at hr;have hr2 := (List.pairwise_append.1 hr).2.1;intro y hy;rcases List.mem_cons.1 hy with rfl | hy
     ·exact hxz
     ·exact lessB_trans hxz ((List.pairwise_cons.1 hr2).1 y hy)
   have hr := h.rise;unfold Rising at hr;rw [← happ] at hr;obtain ⟨ra, rb, rab⟩ := List.pairwise_append.1 hr;refine ⟨⟨?_, ?_⟩, fun y => ?_⟩
   ·refine List.pairwise_append.2 ⟨ra, List.pairwise_cons.2 ⟨hrest, rb⟩, fun a ha b hb => ?_⟩;rcases List.mem_cons.1 hb with rfl | hb
    ·exact hall a ha
    ·exact rab a ha b hb
   ·intro y hy;rcases List.mem_append.1 hy with hy | hy
    ·exact h.name y (List.mem_of_mem_take hy)
    ·rcases List.mem_cons.1 hy with rfl | hy
     ·exact hx
     ·exact h.name y (List.mem_of_mem_drop hy)
   ·constructor
    ·intro hy;rcases List.mem_append.1 hy with hy | hy
     ·exact .inl (List.mem_of_mem_take hy)
     ·rcases List.mem_cons.1 hy with rfl | hy
      ·exact .inr ⟨rfl, hx⟩
      ·exact .inl (List.mem_of_mem_drop hy)
    ·rintro (hy | ⟨rfl, -⟩)
     ·rw [← happ] at hy;rcases List.mem_append.1 hy with hy | hy
      ·exact List.mem_append.2 (.inl hy)
      ·exact List.mem_append.2 (.inr (List.mem_cons_of_mem _ hy))
     ·exact List.mem_append.2 (.inr (List.mem_cons_self ..))
 ·rw [if_neg hx];refine ⟨h, fun y => ⟨.inl, ?_⟩⟩;rintro (hy | ⟨-, hc⟩)
  ·exact hy
  ·exact absurd hc hx
theorem fold_names : ∀ (l out : List ByteArray), Names out → Names (l.foldl insB out) ∧ ∀ y, y ∈ l.foldl insB out ↔ y ∈ out ∨ (y ∈ l ∧ isName y = true)
 | [], out, h => ⟨h, fun y => by simp⟩
 | x :: l, out, h => by
  obtain ⟨h1, h2⟩ := ins_names h x;obtain ⟨h3, h4⟩ := fold_names l (insB out x) h1;refine ⟨h3, fun y => ?_⟩;rw [List.foldl_cons, h4, h2]
  constructor
  ·rintro ((h | ⟨rfl, h⟩) | ⟨h, h'⟩)
   ·exact .inl h
   ·exact .inr ⟨List.mem_cons_self .., h⟩
   ·exact .inr ⟨List.mem_cons_of_mem _ h, h'⟩
  ·rintro (h | ⟨h, h'⟩)
   ·exact .inl (.inl h)
   ·rcases List.mem_cons.1 h with rfl | h
    ·exact .inl (.inr ⟨rfl, h'⟩)
    ·exact .inr ⟨h, h'⟩
theorem sortB_names (l : List ByteArray) : Names (sortB l) ∧ ∀ y, y ∈ sortB l ↔ y ∈ l ∧ isName y = true := by
 obtain ⟨h1, h2⟩ := fold_names l [] names_nil;exact ⟨h1, fun y => by rw [show sortB l = l.foldl insB [] from rfl, h2]; simp⟩
theorem sortB_unique {l m : List ByteArray} (hr : Rising m) (hm : ∀ y, y ∈ m ↔ y ∈ l ∧ isName y = true) : m = sortB l :=
 rising_unique m (sortB l) hr (sortB_names l).1.rise fun y => by rw [hm, (sortB_names l).2]
end Go.Proofs.YtjfbeeogiejopaaGreatDoor
