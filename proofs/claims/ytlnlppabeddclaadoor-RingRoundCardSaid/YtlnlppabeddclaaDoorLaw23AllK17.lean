/- Parts. -/
import Derived.Test.YtlnlppabeddclaaDoorLaw23AllK16
set_option maxRecDepth 10000
set_option maxHeartbeats 16000000
set_option linter.unusedVariables false
set_option linter.unusedSimpArgs false
namespace Go.Proofs.YtlnlppabeddclaaDoor
open Go.RowKit
attribute [local go_sem ↓] Go.wp_at_zero Go.wp_at_succ
theorem gput_any (p n : Nat) (O I : List (List Nat)) (h : List (Int × Int)) (fp : List Nat) (a b : Int) (w : World) (hg : Gr w p n O I h fp) (hm : h.length ≤ 1000000) (hn : n ≤ 500) :
  Calls Tryd.prog 32 #[.pointer (some ⟨p, 0, none⟩), .int .i64 a, .int .i64 b] w fun e w' => e = .returned (.tuple #[.bool (pB n O a b), .int .i64 (pE n a b)]) ∧
   ∃ fp', Gr w' p n (pO n O a b) (pI n O I a b) (pH n O h a b) fp' ∧ Only fp w w' ∧ ∀ b ∈ fp', b ∈ fp ∨ w.heap.size ≤ b := by
 cases hab : (ndN n a && ndN n b) with
 | false =>
  refine (gput_arg p n O I h fp a b w hg hab).mono ?_;rintro e w' ⟨rfl, rfl⟩;have hb : pB n O a b = false := by unfold pB; rw [hab]; rfl
  refine ⟨by rw [hb]; unfold pE; rw [hab]; rfl, fp, by unfold pO pI pH; simp only [hb]; exact hg, Only.refl _ _, fun b hb => .inl hb⟩
 | true =>
  have hA : ndN n a = true := by simp only [Bool.and_eq_true] at hab; exact hab.1
  have hB : ndN n b = true := by simp only [Bool.and_eq_true] at hab; exact hab.2
  cases hh : hasW (O.getD a.toNat []) b with
  | true =>
   refine (gput_old p n O I h fp a b w hg hA hB hh).mono ?_;rintro e w' ⟨rfl, rfl⟩;have hb : pB n O a b = false := by unfold pB; rw [hab, hh]; rfl
   refine ⟨by rw [hb]; unfold pE; rw [hab]; rfl, fp, by unfold pO pI pH; simp only [hb]; exact hg, Only.refl _ _, fun b hb => .inl hb⟩
  | false =>
   have ha' : 0 ≤ a ∧ a < n := by simpa [ndN] using hA
   have hb' : 0 ≤ b ∧ b < n := by simpa [ndN] using hB
   obtain ⟨k, rfl⟩ := Int.eq_ofNat_of_zero_le ha'.1;obtain ⟨l, rfl⟩ := Int.eq_ofNat_of_zero_le hb'.1;rw [Int.toNat_natCast] at hh;refine (gput_new p n O I h fp k l w hg (by omega) (by omega) hh hm hn).mono ?_;rintro e w' ⟨rfl, fp', G, O1, F⟩;have hb : pB n O (k : Int) (l : Int) = true := by unfold pB; rw [hab, Int.toNat_natCast, hh]; rfl
   refine ⟨by rw [hb]; unfold pE; rw [hab]; rfl, fp', ?_, O1, F⟩;unfold pO pI pH;simp only [hb, if_true, Int.toNat_natCast];exact G
theorem GrC.only {w w' : World} {p n : Nat} {A1 A2 A3 : Option Addr} {c1 c2 c3 : Nat} {po qi : List Nat} {O I : List (List Nat)} {h : List (Int × Int)} {fp S : List Nat} (g : GrC w p n A1 A2 A3 c1 c2 c3 po qi O I h fp) (ho : Only S w w') (hS : ∀ b ∈ fp, b ∉ S) : GrC w' p n A1 A2 A3 c1 c2 c3 po qi O I h fp := by
 refine ⟨ho.blk g.blk (hS _ g.mp), own_only g.row1 ho (fun b hb => hS b (g.m1 b (by rw [hb]; simp))), own_only g.row2 ho (fun b hb => hS b (g.m2 b (by rw [hb]; simp))),
  own_only g.row3 ho (fun b hb => hS b (g.m3 b (by rw [hb]; simp))), g.len1, g.len2, g.len3, g.len4, fun i hi => (g.set1 i hi).only ho (hS _ (g.m0 _ ?_)), fun i hi => (g.set2 i hi).only ho (hS _ (g.m0 _ ?_)), g.nodup, g.mp, g.m0, g.m1, g.m2, g.m3, g.wf⟩
 ·exact List.mem_append_left _ (getD_mem (by rw [g.len1]; exact hi))
 ·exact List.mem_append_right _ (getD_mem (by rw [g.len2]; exact hi))
theorem GrC.sets {w w1 w2 : World} {p n : Nat} {A1 A2 A3 : Option Addr} {c1 c2 c3 : Nat} {po qi : List Nat} {O I : List (List Nat)} {h : List (Int × Int)} {fp : List Nat} (g : GrC w p n A1 A2 A3 c1 c2 c3 po qi O I h fp) {k l : Nat} (hk : k < n) (hl : l < n) {X Y : List Nat}
  (B1 : BSet w1 (po.getD k 0) X) (O1 : Only [po.getD k 0] w w1) (B2 : BSet w2 (qi.getD l 0) Y) (O2 : Only [qi.getD l 0] w1 w2) : GrC w2 p n A1 A2 A3 c1 c2 c3 po qi (O.set k X) (I.set l Y) h fp := by
 have hbx := g.set1 k hk;have hby := g.set2 l hl;have hxpo : po.getD k 0 ∈ po := getD_mem (by rw [g.len1]; exact hk);have hyqi : qi.getD l 0 ∈ qi := getD_mem (by rw [g.len2]; exact hl);have hnd := List.nodup_append.1 g.nodup;have hxy : po.getD k 0 ≠ qi.getD l 0 := hnd.2.2 _ hxpo _ hyqi;have hxp : po.getD k 0 ≠ p := hbx.1.apart g.blk (by decide);have hyp : qi.getD l 0 ≠ p := hby.1.apart g.blk (by decide);have hrow : ∀ {e : TypeId} {size m : Nat} {v : Value} {xs : List Value}, w.ownsRow 0 e size v m xs → e ≠ 72 → w2.ownsRow 0 e size v m xs := fun {e size m v xs} hr hne => by
  have h1 := own_only hr O1 (fun b hb => by simp; exact fun e => own_apart hr hbx.1 hne (by rw [hb, e]; simp));exact own_only h1 O2 (fun b hb => by simp; exact fun e => own_apart hr hby.1 hne (by rw [hb, e]; simp))
 refine ⟨O2.blk (O1.blk g.blk (by simp; exact fun e => hxp e.symm)) (by simp; exact fun e => hyp e.symm), hrow g.row1 (by decide), hrow g.row2 (by decide), hrow g.row3 (by decide), g.len1, g.len2, by rw [List.length_set]; exact g.len3, by rw [List.length_set]; exact g.len4, ?_, ?_, g.nodup, g.mp, g.m0, g.m1, g.m2, g.m3, g.wf⟩
 ·intro i hi;rw [getD_setL _ _ _ _ (by rw [g.len3]; exact hk)]
  by_cases hik : k = i
  ·subst hik;rw [if_pos rfl];exact B1.only O2 (by simp; simpa using hxy)
  ·rw [if_neg hik];have hne : po.getD i 0 ≠ po.getD k 0 := nodup_getD hnd.1 (by rw [g.len1]; exact hi) (by rw [g.len1]; exact hk) (Ne.symm hik);have hne2 : po.getD i 0 ≠ qi.getD l 0 := hnd.2.2 _ (getD_mem (by rw [g.len1]; exact hi)) _ hyqi;exact ((g.set1 i hi).only O1 (by simp; simpa using hne)).only O2 (by simp; simpa using hne2)
 ·intro i hi;rw [getD_setL _ _ _ _ (by rw [g.len4]; exact hl)]
  by_cases hik : l = i
  ·subst hik;rw [if_pos rfl];exact B2
  ·rw [if_neg hik];have hne : qi.getD i 0 ≠ qi.getD l 0 := nodup_getD hnd.2.1 (by rw [g.len2]; exact hi) (by rw [g.len2]; exact hl) (Ne.symm hik);have hne2 : qi.getD i 0 ≠ po.getD k 0 := fun e => hnd.2.2 _ hxpo _ (getD_mem (by rw [g.len2]; exact hi)) e.symm;exact ((g.set2 i hi).only O1 (by simp; simpa using hne2)).only O2 (by simp; simpa using hne)
theorem own_add0 {w : World} {base size : Nat} {e : TypeId} {A : Option Addr} {n c : Nat} {xs : List Value} : (if c = 0 then A else A.map (·.add (0 * size))) = A := by
 split
 ·rfl
 ·cases A with
  | none => rfl
  | some a => simp [Addr.add]
theorem slice_to (A : Option Addr) (len c m : Nat) (hm : m ≤ c) (W : World) : (Instr.slice 22 (.slice A len c) none (some (.int .i64 (m : Int))) none).run Tryd.prog W = .ok (.slice A m c) W := by
 rw [run_slice_h (P := Tryd.prog) W 22 A len c (by kernel_rfl) .i64 (m : Int) (by omega) (by omega)];have hs : (sizeOf (Tryd.prog.elem 22)).run Tryd.prog W = .ok 2 W := by kernel_rfl
 rw [hs];simp only [Result.andThen, sliced, Int.toNat_natCast, Nat.sub_zero];rw [own_add0 (w := W) (base := 0) (e := 0) (xs := []) (n := 0)]
theorem edgeC_take (h : List (Int × Int)) (m : Nat) : edgeC (h.take m) = (edgeC h).take (m * 2) := by
 induction h generalizing m with
 | nil => simp [edgeC]
 | cons x h ih =>
  cases m with
  | zero => simp [edgeC]
  | succ m =>
   have := ih m;simp only [edgeC, List.take_succ_cons, List.flatMap_cons, List.cons_append, List.nil_append] at this ⊢;rw [show (m + 1) * 2 = m * 2 + 2 by omega, List.take_succ_cons, List.take_succ_cons, this]

end Go.Proofs.YtlnlppabeddclaaDoor
