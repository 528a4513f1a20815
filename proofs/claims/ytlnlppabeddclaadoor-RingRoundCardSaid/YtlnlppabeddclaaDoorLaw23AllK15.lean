/- Parts. -/
import Derived.Test.YtlnlppabeddclaaDoorLaw23AllK14
set_option maxRecDepth 10000
set_option maxHeartbeats 16000000
set_option linter.unusedVariables false
set_option linter.unusedSimpArgs false
namespace Go.Proofs.YtlnlppabeddclaaDoor
open Go.RowKit
def edgeC (h : List (Int × Int)) : List Value := h.flatMap fun e => [.int .i64 e.1, .int .i64 e.2]
theorem edgeC_len (h : List (Int × Int)) : (edgeC h).length = h.length * 2 := by
 induction h with
 | nil => rfl
 | cons e h ih => simp only [edgeC, List.flatMap_cons, List.length_append, List.length_cons, List.length_nil] at ih ⊢; omega
theorem edgeC_append (h k : List (Int × Int)) : edgeC (h ++ k) = edgeC h ++ edgeC k := by simp [edgeC]
theorem one_edgeC (h : List (Int × Int)) : ∀ u ∈ edgeC h, u.oneCell' = true := by
 intro u hu;simp only [edgeC, List.mem_flatMap, List.mem_cons, List.not_mem_nil, or_false] at hu;obtain ⟨e, _, rfl | rfl⟩ := hu <;> rfl
theorem edgeC_get (h : List (Int × Int)) (i : Nat) (e : Int × Int) (hi : h[i]? = some e) : (edgeC h)[i * 2]? = some (.int .i64 e.1) ∧ (edgeC h)[i * 2 + 1]? = some (.int .i64 e.2) := by
 induction h generalizing i with
 | nil => cases hi
 | cons x h ih =>
  cases i with
  | zero => simp at hi; subst hi; exact ⟨rfl, rfl⟩
  | succ i =>
   have := ih i (by simpa using hi);simp only [edgeC, List.flatMap_cons, List.cons_append, List.nil_append] at this ⊢;rw [show (i + 1) * 2 = i * 2 + 2 by omega, show i * 2 + 2 + 1 = (i * 2 + 1) + 2 by omega];exact this
structure GrC (w : World) (p n : Nat) (A1 A2 A3 : Option Addr) (c1 c2 c3 : Nat) (po qi : List Nat) (O I : List (List Nat)) (h : List (Int × Int)) (fp : List Nat) : Prop where
 blk : Blk w p 63 #[.bool true, .slice A1 n c1, .slice A2 n c2, .slice A3 h.length c3]
 row1 : w.ownsRow 0 60 1 (.slice A1 n c1) n (ptrs po)
 row2 : w.ownsRow 0 60 1 (.slice A2 n c2) n (ptrs qi)
 row3 : w.ownsRow 0 47 2 (.slice A3 h.length c3) h.length (edgeC h)
 len1 : po.length = n
 len2 : qi.length = n
 len3 : O.length = n
 len4 : I.length = n
 set1 : ∀ i, i < n → BSet w (po.getD i 0) (O.getD i [])
 set2 : ∀ i, i < n → BSet w (qi.getD i 0) (I.getD i [])
 nodup : (po ++ qi).Nodup
 mp : p ∈ fp
 m0 : ∀ x ∈ po ++ qi, x ∈ fp
 m1 : ∀ g ∈ (Value.slice A1 n c1).ownBlock.toList, g ∈ fp
 m2 : ∀ g ∈ (Value.slice A2 n c2).ownBlock.toList, g ∈ fp
 m3 : ∀ g ∈ (Value.slice A3 h.length c3).ownBlock.toList, g ∈ fp
 wf : ∀ e ∈ h, 0 ≤ e.1 ∧ e.1 < n ∧ 0 ≤ e.2 ∧ e.2 < n
def Gr (w : World) (p n : Nat) (O I : List (List Nat)) (h : List (Int × Int)) (fp : List Nat) : Prop := ∃ A1 A2 A3 c1 c2 c3 po qi, GrC w p n A1 A2 A3 c1 c2 c3 po qi O I h fp
theorem getD_mem {l : List Nat} {i : Nat} (hi : i < l.length) : l.getD i 0 ∈ l := by
 rw [List.getD_eq_getElem?_getD, List.getElem?_eq_getElem hi];exact List.getElem_mem hi
theorem Gr.only {w w' : World} {p n : Nat} {O I : List (List Nat)} {h : List (Int × Int)} {fp S : List Nat} (g : Gr w p n O I h fp) (ho : Only S w w') (hS : ∀ b ∈ fp, b ∉ S) : Gr w' p n O I h fp := by
 obtain ⟨A1, A2, A3, c1, c2, c3, po, qi, g⟩ := g;refine ⟨A1, A2, A3, c1, c2, c3, po, qi, ⟨ho.blk g.blk (hS _ g.mp), own_only g.row1 ho (fun b hb => hS b (g.m1 b (by rw [hb]; simp))), own_only g.row2 ho (fun b hb => hS b (g.m2 b (by rw [hb]; simp))),
  own_only g.row3 ho (fun b hb => hS b (g.m3 b (by rw [hb]; simp))), g.len1, g.len2, g.len3, g.len4, fun i hi => (g.set1 i hi).only ho (hS _ (g.m0 _ ?_)), fun i hi => (g.set2 i hi).only ho (hS _ (g.m0 _ ?_)), g.nodup, g.mp, g.m0, g.m1, g.m2, g.m3, g.wf⟩⟩
 ·exact List.mem_append_left _ (getD_mem (by rw [g.len1]; exact hi))
 ·exact List.mem_append_right _ (getD_mem (by rw [g.len2]; exact hi))
theorem Gr.of_new {w : World} {p base n : Nat} {A1 A2 : Option Addr} {c1 c2 : Nat} {po qi : List Nat} (g : NewG w p base n A1 A2 c1 c2 po qi) :
  ∃ fp, Gr w p n (List.replicate n noW) (List.replicate n noW) [] fp ∧ ∀ b ∈ fp, base ≤ b := by
 refine ⟨p :: (po ++ qi) ++ ((Value.slice A1 n c1).ownBlock.toList ++ (Value.slice A2 n c2).ownBlock.toList), ⟨A1, A2, none, c1, c2, 0, po, qi, ?_⟩, ?_⟩
 ·have hg : ∀ i, i < n → (List.replicate n noW).getD i [] = noW := fun i hi => by simp [List.getD_eq_getElem?_getD, List.getElem?_replicate, hi]
  exact ⟨g.blk, ⟨g.row1.1, g.row1.2.imp id fun ⟨g', cap, cur, a, _, b⟩ => ⟨g', cap, cur, a, Nat.zero_le _, b⟩⟩, ⟨g.row2.1, g.row2.2.imp id fun ⟨g', cap, cur, a, _, b⟩ => ⟨g', cap, cur, a, Nat.zero_le _, b⟩⟩, World.ownsRow_nil _ _ _ _, g.len1, g.len2, by simp, by simp,
   fun i hi => by rw [hg i hi]; exact (g.sets _ (List.mem_append_left _ (getD_mem (by rw [g.len1]; exact hi)))).1,
   fun i hi => by rw [hg i hi]; exact (g.sets _ (List.mem_append_right _ (getD_mem (by rw [g.len2]; exact hi)))).1,
   g.nodup, by simp, fun x hx => List.mem_append_left _ (List.mem_cons_of_mem _ hx), fun x hx => List.mem_append_right _ (List.mem_append_left _ hx), fun x hx => List.mem_append_right _ (List.mem_append_right _ hx), fun x hx => by simp [Value.ownBlock] at hx, fun e he => by cases he⟩
 ·intro b hb;simp only [List.cons_append, List.mem_cons, List.mem_append] at hb;rcases hb with rfl | (hb | hb) | hb | hb
  ·exact g.low
  ·exact (g.sets b (by simp [hb])).2
  ·exact (g.sets b (by simp [hb])).2
  ·exact (g.row1.lt b (by simpa using hb)).1
  ·exact (g.row2.lt b (by simpa using hb)).1
theorem ptr_at {w : World} {t : TypeId} {A : Option Addr} {n c : Nat} {po : List Nat} (hr : w.ownsRow 0 t 1 (.slice A n c) n (ptrs po)) (hl : po.length = n) {k : Nat} (hk : k < n) :
  ∃ g, A = some ⟨g, 0, none⟩ ∧ g < w.heap.size ∧ w.cell? ⟨g, k, none⟩ = some (.pointer (some ⟨po.getD k 0, 0, none⟩)) := by
 obtain ⟨g, cap, hv, hb, hlt⟩ := hr.form (by omega);simp at hv;obtain ⟨rfl, rfl⟩ := hv;refine ⟨g, rfl, hlt, ?_⟩;rw [hr.cellAt k (by omega)];simp [ptrs, List.getD_eq_getElem?_getD, List.getElem?_eq_getElem (show k < po.length by omega)]
def ghN (n : Nat) (O : List (List Nat)) (a b : Int) : Bool := ndN n a && ndN n b && hasW (O.getD a.toNat []) b
theorem ghas_any (p n : Nat) (O I : List (List Nat)) (h : List (Int × Int)) (fp : List Nat) (a b : Int) (w : World) (hg : Gr w p n O I h fp) :
  Calls Tryd.prog 26 #[.pointer (some ⟨p, 0, none⟩), .int .i64 a, .int .i64 b] w fun e w' => e = .returned (.bool (ghN n O a b)) ∧ w = w' := by
 obtain ⟨A1, A2, A3, c1, c2, c3, po, qi, g⟩ := hg;have h0 := g.blk.at_ 0;have h1 := g.blk.at_ 1;simp at h0 h1;have HNA := Hd (gnode_yes p A1 n c1 a w h0 h1);have HNB := Hd (gnode_yes p A1 n c1 b w h0 h1)
 cases hA : ndN n a with
 | false =>
  rw [hA] at HNA;unfold ghN;rw [hA];clear g h0 h1;go_enter Tryd.func26, Tryd.ntmps26;go_wp2_with fail
  refine (HNA.out).mono ?_;rintro e w1 ⟨rfl, rfl⟩;go_wp2
  go_ret
  exact ⟨rfl, rfl⟩
 | true =>
  rw [hA] at HNA
  cases hB : ndN n b with
  | false =>
   rw [hB] at HNB;unfold ghN;rw [hA, hB];clear g h0 h1;go_enter Tryd.func26, Tryd.ntmps26;go_wp2_with fail
   refine (HNA.out).mono ?_;rintro e w1 ⟨rfl, rfl⟩;go_wp2_with fail
   refine (HNB.out).mono ?_;rintro e w1 ⟨rfl, rfl⟩;go_wp2
   go_ret
   exact ⟨rfl, rfl⟩
  | true =>
   rw [hB] at HNB;have ha : 0 ≤ a ∧ a < n := by simpa [ndN] using hA
   obtain ⟨k, rfl⟩ := Int.eq_ofNat_of_zero_le ha.1;have hk : k < n := by omega
   obtain ⟨g1, rfl, hg1, hc⟩ := ptr_at g.row1 g.len1 hk;have HH := Hd (has_any _ b _ w (g.set1 k hk));unfold ghN;rw [hA, hB];simp only [Bool.true_and, Int.toNat_natCast];clear g h0;go_enter Tryd.func26, Tryd.ntmps26;go_wp2_with fail
   refine (HNA.out).mono ?_;rintro e w1 ⟨rfl, rfl⟩;go_wp2_with fail
   refine (HNB.out).mono ?_;rintro e w1 ⟨rfl, rfl⟩;go_wp2_with fail
   refine (HH.out).mono ?_;rintro e w1 ⟨rfl, rfl⟩;go_wp2
   go_ret
   exact ⟨rfl, rfl⟩
theorem gnext_some (p n : Nat) (O I : List (List Nat)) (h : List (Int × Int)) (fp : List Nat) (k : Nat) (w : World) (hg : Gr w p n O I h fp) (hk : k < n) (hT : Tab w) (h00 : 0 < w.heap.size) :
  Calls Tryd.prog 20 #[.pointer (some ⟨p, 0, none⟩), .int .i64 (k : Int)] w fun e w' => ∃ v, (e = .returned v ∧ w'.ownsRow w.heap.size 3 1 v (allW (O.getD k [])).length ((allW (O.getD k [])).map (Value.int .i64))) ∧ Only [] w w' := by
 obtain ⟨A1, A2, A3, c1, c2, c3, po, qi, g⟩ := hg;have h0 := g.blk.at_ 0;have h1 := g.blk.at_ 1;simp at h0 h1;have hA : ndN n (k : Int) = true := by simp [ndN]; omega
 have HNA := Hd (gnode_yes p A1 n c1 (k : Int) w h0 h1);rw [hA] at HNA;obtain ⟨g1, rfl, hg1, hc⟩ := ptr_at g.row1 g.len1 hk;have HH := Hd (all_some _ _ w (g.set1 k hk) hT h00);clear g h0 hT hA;go_enter Tryd.func20, Tryd.ntmps20;go_wp2_with fail
 refine (HNA.out).mono ?_;rintro e w1 ⟨rfl, rfl⟩;go_wp2_with fail
 refine (HH.out).mono ?_;rintro e w1 ⟨v, ⟨rfl, hv⟩, hO⟩;go_wp2
 go_ret
 exact ⟨_, ⟨rfl, hv⟩, hO⟩
theorem gback_some (p n : Nat) (O I : List (List Nat)) (h : List (Int × Int)) (fp : List Nat) (k : Nat) (w : World) (hg : Gr w p n O I h fp) (hk : k < n) (hT : Tab w) (h00 : 0 < w.heap.size) :
  Calls Tryd.prog 21 #[.pointer (some ⟨p, 0, none⟩), .int .i64 (k : Int)] w fun e w' => ∃ v, (e = .returned v ∧ w'.ownsRow w.heap.size 3 1 v (allW (I.getD k [])).length ((allW (I.getD k [])).map (Value.int .i64))) ∧ Only [] w w' := by
 obtain ⟨A1, A2, A3, c1, c2, c3, po, qi, g⟩ := hg;have h0 := g.blk.at_ 0;have h1 := g.blk.at_ 1;have h2 := g.blk.at_ 2;simp at h0 h1 h2;have hA : ndN n (k : Int) = true := by simp [ndN]; omega
 have HNA := Hd (gnode_yes p A1 n c1 (k : Int) w h0 h1);rw [hA] at HNA;obtain ⟨g1, rfl, hg1, hc⟩ := ptr_at g.row2 g.len2 hk;have HH := Hd (all_some _ _ w (g.set2 k hk) hT h00);clear g h0 hT hA;go_enter Tryd.func21, Tryd.ntmps21;go_wp2_with fail
 refine (HNA.out).mono ?_;rintro e w1 ⟨rfl, rfl⟩;go_wp2_with fail
 refine (HH.out).mono ?_;rintro e w1 ⟨v, ⟨rfl, hv⟩, hO⟩;go_wp2
 go_ret
 exact ⟨_, ⟨rfl, hv⟩, hO⟩
end Go.Proofs.YtlnlppabeddclaaDoor
