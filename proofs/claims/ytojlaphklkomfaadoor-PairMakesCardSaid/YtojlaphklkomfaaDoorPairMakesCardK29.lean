/- Parts. -/
import Derived.Test.YtojlaphklkomfaaDoorPairMakesCardK28
set_option maxRecDepth 10000
set_option maxHeartbeats 16000000
set_option linter.unusedVariables false
set_option linter.unusedSimpArgs false
namespace Go.Proofs.YtojlaphklkomfaaDoor
open Go.RowKit
open Go.Lib hiding intOf
attribute [local go_sem ↓] Go.wp_at_zero Go.wp_at_succ
def atN (ps : List Pt) (s : ByteArray) : Int := match openI ps s with | some i => (i : Int) | none => -1
theorem at_hit {ps : List Pt} {s : ByteArray} {k : Nat} {p : Pt} (hp : ps[k]? = some p) (h1 : p.s = s) (h2 : p.f = 0) (hall : ∀ (j : Nat) q, j < k → ps[j]? = some q → ¬ (q.s = s ∧ q.f = 0)) : openI ps s = some k := by
 unfold openI;rw [List.findIdx?_eq_some_iff_getElem];obtain ⟨hlt, he⟩ := List.getElem?_eq_some_iff.1 hp;refine ⟨hlt, by rw [he, h1, h2]; simp, fun j hj => ?_⟩;have := hall j _ hj (List.getElem?_eq_getElem (Nat.lt_trans hj hlt));simp only [Bool.not_eq_true, Bool.and_eq_false_iff, decide_eq_false_iff_not]
 by_cases h : ps[j].s = s
 ·exact .inr fun h' => this ⟨h, h'⟩
 ·exact .inl h
theorem at_miss {ps : List Pt} {s : ByteArray} (hall : ∀ (j : Nat) q, j < ps.length → ps[j]? = some q → ¬ (q.s = s ∧ q.f = 0)) : openI ps s = none := by
 unfold openI;rw [List.findIdx?_eq_none_iff];intro p hp;obtain ⟨j, hj⟩ := List.mem_iff_getElem?.1 hp;have := hall j p (List.getElem?_eq_some_iff.1 hj).1 hj;simp only [Bool.not_eq_true, Bool.and_eq_false_iff, decide_eq_false_iff_not]
 by_cases h : p.s = s
 ·exact .inr fun h' => this ⟨h, h'⟩
 ·exact .inl h
theorem rat_any (base gw : Nat) (ps : List Pt) (VL VN VK VI VO : Value) (xs : List PtA) (s : ByteArray) (w : World) (h : WAt w base gw ps VL VN VK VI VO xs) (hn : ps.length ≤ 40) :
  Calls Tryd.prog 39 #[.pointer (some ⟨gw, 0, none⟩), .string s] w fun e w' => e = .returned (.int .i64 (atN ps s)) ∧ w' = w := by
 obtain ⟨-, ⟨A1, c1, rfl, r1⟩, -, -, ⟨A4, c4, rfl, r4⟩⟩ := h.vals;have HR1 := Hd r1;have HR4 := Hd r4;have hb := h.blk;have b3 := hb.at_ 3;have b6 := hb.at_ 6;have lb := hb.lt;simp at b3 b6;generalize hnn : ps.length = n at *;have HN := Hd hnn;clear h r1 r4 hb hnn;go_enter Tryd.func39, Tryd.ntmps39;go_wp2_with fail
 go_loopw [5] (fun iv wr => ∃ k : Nat, iv = .int .i64 k ∧ k ≤ n ∧ wr = w ∧ Hid (∀ (j : Nat) q, j < k → ps[j]? = some q → ¬ (q.s = s ∧ q.f = 0))) (fun iv _ => n - (intOf iv).toNat)
 case atStart => exact ⟨0, rfl, by omega, rfl, Hd (fun j q hj => by omega)⟩
 case round =>
  obtain ⟨k, rfl, hk, rfl, hall⟩ := hrel
  by_cases hlt : k < n
  ·have h01 : (k : Int) < (n : Int) := by omega
   have hk0 : (0 : Int) ≤ (k : Int) := Int.natCast_nonneg _;have hwk : IntKind.i64.wrap ((k : Int) + 1) = (k : Int) + 1 := IntWalk.i64_in _ (by omega);obtain ⟨p, hp⟩ : ∃ p, ps[k]? = some p := ⟨_, List.getElem?_eq_getElem (by rw [HN.out]; exact hlt)⟩;have HP := Hd hp;obtain ⟨b1, o1, rfl, -, l1, hc1⟩ := HR1.out.open_ (k := k) (by rw [strs, List.length_map, List.length_map, HN.out]; exact hlt);obtain ⟨b4, o4, rfl, -, l4, hc4⟩ := HR4.out.open_ (k := k) (by rw [List.length_map, HN.out]; exact hlt);have z1 := hc1 k (.string p.s) (by rw [strs, List.getElem?_map, List.getElem?_map, hp]; rfl);have z4 := hc4 k (.bool (decide (p.f = 0))) (by rw [List.getElem?_map, hp]; rfl);clear hp hc1 hc4
   by_cases hf : p.f = 0
   ·rw [decide_eq_true hf] at z4;have HF := Hd hf;clear hf
    by_cases hs : p.s = s
    ·subst hs;have hss : (p.s.toList == p.s.toList) = true := by simp
     have HX : Hid (atN ps p.s = (k : Int)) := Hd (by unfold atN; rw [at_hit HP.out rfl HF.out hall.out]);go_wp2
     go_ret
     exact ⟨by rw [HX.out]; rfl, rfl⟩
    ·have hss : (p.s.toList == s.toList) = false := by
      have := textb_ne hs
      simpa using this
     have HS := Hd hs;clear hs;go_wp2
     go_roundw
     case rel =>
      refine ⟨k + 1, by go_num, by omega, by first | rfl | trivial, Hd (fun j q hj hq => ?_)⟩;rcases Nat.lt_or_ge j k with h2 | h2
      ·exact hall.out j q h2 hq
      ·have : j = k := by omega
       subst this;rw [HP.out] at hq;obtain rfl := Option.some.inj hq;exact fun h => HS.out h.1
     case measure => simp [intOf]; omega
   ·rw [decide_eq_false hf] at z4;have HF := Hd hf;clear hf;go_wp2
    go_roundw
    case rel =>
     refine ⟨k + 1, by go_num, by omega, by first | rfl | trivial, Hd (fun j q hj hq => ?_)⟩;rcases Nat.lt_or_ge j k with h2 | h2
     ·exact hall.out j q h2 hq
     ·have : j = k := by omega
      subst this;rw [HP.out] at hq;obtain rfl := Option.some.inj hq;exact fun h => HF.out h.2
    case measure => simp [intOf]; omega
  ·have hkn : k = n := by omega
   subst hkn;have hd : decide ((k : Int) < (k : Int)) = false := by simp
   have HX : Hid (atN ps s = -1) := Hd (by unfold atN; rw [at_miss (fun j q hj hq => hall.out j q (by rw [← HN.out]; exact hj) hq)]);go_wp2
   go_ret
   exact ⟨by rw [HX.out]; rfl, rfl⟩
theorem flat_take {α : Type} {f : Pt → List α} {l : List Pt} {k : Nat} {p : Pt} (h : l[k]? = some p) : (l.take (k + 1)).flatMap f = (l.take k).flatMap f ++ f p := by
 rw [List.take_add_one, h, List.flatMap_append];simp
theorem flat_le {f : Pt → List ByteArray} {c : Nat} : ∀ (l : List Pt), (∀ p ∈ l, (f p).length ≤ c) → (l.flatMap f).length ≤ l.length * c
 | [], _ => by simp
 | p :: l, h => by
  have h1 := h p (List.mem_cons_self ..);have h2 := flat_le l (fun q hq => h q (List.mem_cons_of_mem _ hq));rw [List.flatMap_cons, List.length_append, List.length_cons, Nat.add_mul];omega
theorem rkeys_any (base gw : Nat) (ps : List Pt) (VL VN VK VI VO : Value) (xs : List PtA) (w : World) (h : WAt w base gw ps VL VN VK VI VO xs) (hn : ps.length ≤ 40) (hk : ∀ p ∈ ps, p.ks.length ≤ 20) :
  Calls Tryd.prog 19 #[.pointer (some ⟨gw, 0, none⟩)] w fun e w' => Only [] w w' ∧ ∃ V, e = .returned V ∧ w'.ownsRow w.heap.size 9 1 V (ps.flatMap Pt.ks).length (strs (ps.flatMap Pt.ks)) := by
 obtain ⟨is_, his, his0, his1, his2⟩ := info_parts info_strg;have HXS := Hd (fun (k : Nat) (p : Pt) (hp : ps[k]? = some p) => h.get hp);obtain ⟨-, -, ⟨A2, c2, rfl, r2⟩, -, -⟩ := h.vals;have HK := Hd (fun (k : Nat) (x : PtA) (hx : xs[k]? = some x) => (own_row (h.rows.all (5 + k * 2) (kRow x) (by
  show ((_ :: _ :: _ :: _ :: _ :: xs.flatMap two) : List OR)[5 + k * 2]? = _
  rw [Nat.add_comm];exact (two_k xs k x hx).1))))
 have HL := Hd h.len;have HR2 := Hd r2;have HKS := Hd hk;have HB := Hd h.blk;generalize hnn : ps.length = n at *;have HN := Hd hnn;clear h r2 hnn hk;go_enter Tryd.func19, Tryd.ntmps19;have hO : (w.alloc (.cells #[] 9)).ownsRow w.heap.size 9 1 (.slice (some ⟨w.heap.size, 0, none⟩) 0 0) 0 [] := World.ownsRow_lit w (e := 9) (size := 1) #[] 0 (Nat.le_refl _) (by unfold maxLen; omega) rfl;have HO := Hd hO;have HW := Hd ((Only.refl [] w).alloc (.cells #[] 9));clear hO;go_upto_region 2 with (fail)
 generalize (w.alloc (.cells #[] 9)) = w1 at *;go_wp2_with fail
 go_loopw [3, 4] (fun V iv wr => ∃ k : Nat, iv = .int .i64 k ∧ k ≤ n ∧ Hid (wr.ownsRow w.heap.size 9 1 V ((ps.take k).flatMap Pt.ks).length (strs ((ps.take k).flatMap Pt.ks))) ∧ Hid (Only [] w wr)) (fun _ iv _ => n - (intOf iv).toNat)
 case atStart => exact ⟨0, rfl, by omega, HO, HW⟩
 case round =>
  obtain ⟨k, rfl, hk, hOw, hOn⟩ := hrel;obtain ⟨A5, c5, rfl, -⟩ := own_row hOw.out;have hb := hOn.out.blk HB.out (by simp);have b4 := hb.at_ 4;have lb := hb.lt;simp at b4;clear hb
  by_cases hlt : k < n
  ·have h01 : (k : Int) < (n : Int) := by omega
   have hk0 : (0 : Int) ≤ (k : Int) := Int.natCast_nonneg _;have hwk : IntKind.i64.wrap ((k : Int) + 1) = (k : Int) + 1 := IntWalk.i64_in _ (by omega);obtain ⟨p, hp⟩ : ∃ p, ps[k]? = some p := ⟨_, List.getElem?_eq_getElem (by rw [HN.out]; exact hlt)⟩;obtain ⟨x, hx, hxp⟩ := HXS.out k p hp;obtain ⟨Ax, cx, ex, -, -, hlx, rx⟩ := HK.out k x hx;obtain ⟨b2, o2, rfl, -, l2, hc2⟩ := HR2.out.open_ (k := k) (by rw [List.length_map, HL.out]; exact hlt);have z2 := hc2 k (.slice x.A x.p.ks.length x.c) (by rw [List.getElem?_map, hx]; rfl);have z2 := (hOn.out.cell (p := ⟨b2, o2 + k, none⟩) l2 (by simp)).trans z2;have l2' : b2 < wr.heap.size := Nat.lt_of_lt_of_le l2 hOn.out.size;injection ex with e1 e2 e3;have HRX : Hid (Row wr w.heap.size x.A (strs p.ks)) := Hd (by
    rw [e1, ← hxp];exact rx.only hOn.out (by simp))
   rw [hxp] at z2;have HFT := Hd (flat_take (f := Pt.ks) hp);have hpk := HKS.out p (List.mem_of_getElem? hp);have hle := flat_le (f := Pt.ks) (c := 20) (ps.take k) (fun q hq => HKS.out q (List.mem_of_mem_take hq));have hle2 : ((ps.take k).flatMap Pt.ks).length ≤ 800 := by
    rw [List.length_take] at hle;have := Nat.min_le_left k ps.length;omega
   have hskl : (strs p.ks).length = p.ks.length * 1 := by simp [strs]
   have HSK := Hd hskl;have HHG := Hd hOn.out.size;clear hp hc2 hx hxp rx hlx e1 e2 e3 hle hskl;generalize hfl : (ps.take k).flatMap Pt.ks = fl at *;clear hfl;go_wp2_with (at_builtin; refine wpList_append_row _ rfl (.tmp 15) (.tmp 22) _ rfl w.heap.size 9 is_ _ 1 16 Tryd.underlying24 his his0 his1 his2 rfl (by omega) _ _ _ rfl hOw.out w.heap.size x.A p.ks.length x.c (strs p.ks) rfl HSK.out HRX.out (by intro u hu; obtain ⟨y, -, rfl⟩ := List.mem_map.1 hu; rfl) (by unfold maxLen; omega) (by omega) HHG.out ?_; intro v9 w9 hown9 hgrow9 hat9; obtain ⟨A9, c9, e9, -, -, -, -⟩ := own_row hown9; subst e9; have HOW9 := Hd hown9; have HON9 := Hd (hOn.out.step (only_grown hgrow9) (own_new hOw.out)); clear hown9 hgrow9 hat9)
   go_roundw
   case rel => exact ⟨k + 1, by go_num, by omega, Hd (by
    rw [HFT.out, List.length_append];have e : strs (fl ++ p.ks) = strs fl ++ strs p.ks := by simp [strs]
    rw [e];exact HOW9.out), HON9⟩
   case measure => simp [intOf]; omega
  ·have hkn : k = n := by omega
   subst hkn;have hd : decide ((k : Int) < (k : Int)) = false := by simp
   have hfo : ps.take k = ps := by rw [← HN.out, List.take_length]
   rw [hfo] at hOw;go_wp2
   go_ret
   exact ⟨hOn.out, _, rfl, by have := hOw.out; rw [hfo]; exact this⟩
end Go.Proofs.YtojlaphklkomfaaDoor
