/- Parts. -/
import Derived.Test.YtlnlppabeddclaaDoorLaw23AllK12
import Derived.Test.YtlnlppabeddclaaDoorLaw23AllK13
set_option maxRecDepth 10000
set_option maxHeartbeats 16000000
set_option linter.unusedVariables false
set_option linter.unusedSimpArgs false
namespace Go.Proofs.YtlnlppabeddclaaDoor
open Go.RowKit
attribute [local go_sem ↓] Go.wp_at_zero Go.wp_at_succ
def ptrs (l : List Nat) : List Value := l.map fun b => .pointer (some ⟨b, 0, none⟩)
structure NewG (w : World) (p base k : Nat) (A1 A2 : Option Addr) (c1 c2 : Nat) (po qi : List Nat) : Prop where
 blk : Blk w p 63 #[.bool true, .slice A1 k c1, .slice A2 k c2, .slice none 0 0]
 row1 : w.ownsRow base 60 1 (.slice A1 k c1) k (ptrs po)
 row2 : w.ownsRow base 60 1 (.slice A2 k c2) k (ptrs qi)
 len1 : po.length = k
 len2 : qi.length = k
 sets : ∀ x ∈ po ++ qi, BSet w x noW ∧ base ≤ x
 nodup : (po ++ qi).Nodup
 apart : ∀ g ∈ (Value.slice A1 k c1).ownBlock.toList, g ∉ (Value.slice A2 k c2).ownBlock.toList
 low : base ≤ p
theorem gnew_ok (n : Nat) (w : World) (hn : n ≤ 500) :
  Calls Tryd.prog 31 #[.int .i64 (n : Int)] w fun e w' => e = .returned (.tuple #[.pointer (some ⟨w.heap.size, 0, none⟩), .int .i64 0]) ∧
   (∃ A1 A2 c1 c2 po qi, NewG w' w.heap.size w.heap.size n A1 A2 c1 c2 po qi) ∧ Only [] w w' := by
 obtain ⟨i0, hi, hz0, hz1, hz2⟩ := info_parts info_setp;have HN := Hd (fun W : World => new_any none 0 0 [] W (.inl rfl) rfl (by omega));have hb0 : decide ((n : Int) < 0) = false := by simp
 have hb1 : decide ((500 : Int) < (n : Int)) = false := by simp; omega
 go_enter Tryd.func31, Tryd.ntmps31;go_wp2
 go_loopw [14] (fun i wr => ∃ k : Nat, i = .int .i64 k ∧ k ≤ n ∧ Only [] w wr ∧ Hid (∃ A1 A2 c1 c2 po qi, NewG wr w.heap.size w.heap.size k A1 A2 c1 c2 po qi)) (fun i _ => n - (intOf i).toNat)
 case atStart =>
  refine ⟨0, rfl, by omega, (Only.refl _ _).alloc _, Hd ⟨none, none, 0, 0, [], [], ?_⟩⟩;exact ⟨Blk.made _ _ _, World.ownsRow_nil _ _ _ _, World.ownsRow_nil _ _ _ _, rfl, rfl, fun x hx => by simp at hx, List.nodup_nil, fun g hg => by simp [Value.ownBlock] at hg, Nat.le_refl _⟩
 case round =>
  obtain ⟨k, rfl, hk, hO, HG⟩ := hrel;obtain ⟨A1, A2, c1, c2, po, qi, hG⟩ := HG.out;clear HG;have hblk := hG.blk;have q1 : wr.cell? ⟨w.heap.size, 1, none⟩ = some (.slice A1 k c1) := hblk.at_ 1;have q2 : wr.cell? ⟨w.heap.size, 2, none⟩ = some (.slice A2 k c2) := hblk.at_ 2;have hplt := hblk.lt;have HGG := Hd hG;clear hG hblk
  by_cases hlt : k < n
  ·go_wp2_with fail
   refine rgo (F := [⟨[], [18], fun w' => w'.cell? ⟨w.heap.size, 1, none⟩ = some (.slice A1 k c1)⟩, ⟨[], [21], fun w' => w'.cell? ⟨w.heap.size, 2, none⟩ = some (.slice A2 k c2)⟩]) (timed_holds (q1) (th1 (q2))) ?_;refine tQ 0 (h := tQ 1 (h := tQ 2 (h := tQ 3 (h := tQ 4 (h := ?_)))));refine trd (i := 5) (v := ?_) 0 ?_ ?_;rotate_left
   ·(intro w hSw; (try  dsimp only at hSw); go_simp; try with_reducible rfl)
   (try simp only [tdz]);refine tQ 9 (h := tQ 10 (h := tQ 11 (h := ?_)));refine trd (i := 12) (v := ?_) 1 ?_ ?_;rotate_left
   ·(intro w hSw; (try  dsimp only at hSw); go_simp; try with_reducible rfl)
   (try simp only [tdz]);refine tst (i := 6) fun K hK => ?_;go_simp;refine (HN.out _).mono ?_;rintro e w1 ⟨rfl, B1, O1'⟩;have O1 : Only [] wr w1 := ((Only.refl [] wr).drew).trans O1';have hplt1 := Nat.lt_of_lt_of_le hplt O1.size;have HB1 := Hd B1;clear B1 O1';refine hK.out _ _ (timed_holds ((O1.cell (p := ⟨w.heap.size, 1, none⟩) hplt (by simp)).trans q1) (th1 ((O1.cell (p := ⟨w.heap.size, 2, none⟩) hplt (by simp)).trans q2))) ?_;clear hK K;(try simp only [tdz]);refine tst (i := 7) fun K hK => ?_;go_simp;refine hK.out _ _ (timed_holds ((World.cell?_alloc_lt _ _ _ hplt1).trans ((O1.cell (p := ⟨w.heap.size, 1, none⟩) hplt (by simp)).trans q1)) (th1 ((World.cell?_alloc_lt _ _ _ hplt1).trans ((O1.cell (p := ⟨w.heap.size, 2, none⟩) hplt (by simp)).trans q2)))) ?_;clear hK K;(try simp only [tdz]);refine tst (i := 8) fun K hK => ?_;have OA : Only [] wr (w1.alloc (.cells #[.pointer (some ⟨wr.heap.size, 0, none⟩)] 60)) := O1.alloc _;refine step_append_row _ rfl (.tmp 21) (.tmp 23) 61 rfl w.heap.size 60 i0 _ 1 8 Tryd.underlying61 hi hz0 hz1 hz2 rfl (by omega) (.slice A1 k c1) k (ptrs po) (by rfl) (own_only HGG.out.row1 OA (fun _ _ => by simp)) _ _ 1 1 [.pointer (some ⟨wr.heap.size, 0, none⟩)] (by rfl) (by simp) (row_lit _ _ _) (by intro u hu; simp at hu; subst hu; rfl) (by unfold maxLen; omega) (by omega) (Nat.le_trans (Nat.le_of_lt hplt) OA.size) ?_;intro v' w3 hown hgrow hat;obtain ⟨A1', c1', rfl, hd11, hd12, -, -⟩ := own_row hown;have OV := only_grown hgrow;have O3 : Only [] w w3 := (hO.trans OA).step OV (fun i hi hl => by have := (HGG.out.row1.lt i (by simpa using hi)).1; omega);have hP3 := OV.blk (OA.blk HGG.out.blk (by simp)) (own_apart HGG.out.row1 HGG.out.blk (by decide));have h31 : w3.cell? ⟨w.heap.size, 1, none⟩ = some (.slice A1 k c1) := hP3.at_ 1;have h32 : w3.cell? ⟨w.heap.size, 2, none⟩ = some (.slice A2 k c2) := hP3.at_ 2;have hplt3 := hP3.lt;have HP3 := Hd hP3;have HW1 := Hd hown;clear hP3 hown;refine hK.out _ _ (timed_holds (h31) (th1 (h32))) ?_;clear hK K;(try simp only [tdz]);refine tst (i := 13) fun K hK => ?_;go_simp;refine (HN.out _).mono ?_;rintro e w4 ⟨rfl, B4, O4⟩;have hplt4 := Nat.lt_of_lt_of_le hplt3 O4.size;have HB4 := Hd B4;clear B4;refine hK.out _ _ (timed_holds ((O4.cell (p := ⟨w.heap.size, 1, none⟩) hplt3 (by simp)).trans h31) (th1 ((O4.cell (p := ⟨w.heap.size, 2, none⟩) hplt3 (by simp)).trans h32))) ?_;clear hK K;(try simp only [tdz]);refine tst (i := 14) fun K hK => ?_;go_simp;refine hK.out _ _ (timed_holds ((World.cell?_alloc_lt _ _ _ hplt4).trans ((O4.cell (p := ⟨w.heap.size, 1, none⟩) hplt3 (by simp)).trans h31)) (th1 ((World.cell?_alloc_lt _ _ _ hplt4).trans ((O4.cell (p := ⟨w.heap.size, 2, none⟩) hplt3 (by simp)).trans h32)))) ?_;clear hK K;(try simp only [tdz]);refine tst (i := 15) fun K hK => ?_;have OA4 : Only [] w3 (w4.alloc (.cells #[.pointer (some ⟨w3.heap.size, 0, none⟩)] 60)) := O4.alloc _;have hrow2 : w3.ownsRow w.heap.size 60 1 (.slice A2 k c2) k (ptrs qi) := own_only (own_only HGG.out.row2 OA (fun _ _ => by simp)) OV (fun g hg h => HGG.out.apart g h (by rw [hg]; simp));have HR2 := Hd hrow2;clear hrow2;refine step_append_row _ rfl (.tmp 28) (.tmp 30) 61 rfl w.heap.size 60 i0 _ 1 8 Tryd.underlying61 hi hz0 hz1 hz2 rfl (by omega) (.slice A2 k c2) k (ptrs qi) (by rfl) (own_only HR2.out OA4 (fun _ _ => by simp)) _ _ 1 1 [.pointer (some ⟨w3.heap.size, 0, none⟩)] (by rfl) (by simp) (row_lit _ _ _) (by intro u hu; simp at hu; subst hu; rfl) (by unfold maxLen; omega) (by omega) (Nat.le_trans (Nat.le_of_lt hplt3) OA4.size) ?_;intro v' w6 hown hgrow hat2;obtain ⟨A2', c2', rfl, hd21, hd22, -, -⟩ := own_row hown;have OV2 := only_grown hgrow;have hP6 := OV2.blk (OA4.blk HP3.out (by simp)) (own_apart HR2.out HP3.out (by decide));have h61 : w6.cell? ⟨w.heap.size, 1, none⟩ = some (.slice A1 k c1) := hP6.at_ 1;have h62 : w6.cell? ⟨w.heap.size, 2, none⟩ = some (.slice A2 k c2) := hP6.at_ 2;have h6f : ∀ i, w6.frozen? ⟨w.heap.size, i, none⟩ = false := hP6.free
   have HP6 := Hd hP6;have HW2 := Hd hown;clear hP6 hown;refine hK.out _ _ (timed_holds (h61) (th1 (h62))) ?_;clear hK K;(try simp only [tdz]);refine tQ 16 (h := tQ 17 (h := ?_));refine tst (i := 18) fun K hK => ?_;go_simp;refine hK.out _ _ (timed_over (by kernel_rfl) (th1 ((World.cell?_setCell_other _ _ _ _ (by simp)).trans h62))) ?_;clear hK K;(try simp only [tdz]);refine tQ 19 (h := tQ 20 (h := ?_));refine tst (i := 21) fun K hK => ?_;go_simp;refine hK.out _ _ (timed_over (by kernel_rfl) (timed_over (by kernel_rfl) (timed_nil))) ?_;clear hK K;(try simp only [tdz]);refine tdn ?_;go_wp2
   go_roundw
   have hown1 : ∀ g ∈ (Value.slice A1 k c1).ownBlock.toList, w.heap.size ≤ g ∧ g < wr.heap.size := fun g hg => HGG.out.row1.lt g (by simpa using hg);have hown2 : ∀ g ∈ (Value.slice A2 k c2).ownBlock.toList, w.heap.size ≤ g ∧ g < wr.heap.size := fun g hg => HGG.out.row2.lt g (by simpa using hg);have O6 : Only [] w w6 := (O3.trans OA4).step OV2 (fun i hi hl => by have := (hown2 i hi).1; omega);have OS : Only [w.heap.size] w6 ((w6.setCell ⟨w.heap.size, 1, none⟩ (.slice A1' (k + 1) c1')).setCell ⟨w.heap.size, 2, none⟩ (.slice A2' (k + 1) c2')) := ((Only.refl _ w6).put (by simp) _).put (by simp) _;have hs1 : wr.heap.size < w1.heap.size := HB1.out.lt;have hs2 := OV.size;have hs3 : w3.heap.size < w4.heap.size := HB4.out.lt;have hs4 := OV2.size;simp only [World.size_alloc] at hs2 hs4 hat hat2;have hap1 : ∀ g ∈ (Value.slice A1' (k + 1) c1').ownBlock.toList, g ∉ (Value.slice A2 k c2).ownBlock.toList := fun g hg hg2 => by
    rcases hat with h | h
    ·rw [h] at hg;exact HGG.out.apart g hg hg2
    ·rw [h] at hg;simp at hg;have := (hown2 g hg2).2;omega
   have hl1 : ∀ g ∈ (Value.slice A1' (k + 1) c1').ownBlock.toList, g < w3.heap.size := fun g hg => own_lt HW1.out hg;have hset : ∀ {W : World} {x : Nat} {ws : List Nat} {v : Value} {m : Nat} {xs : List Value} {W' : World}, BSet W x ws → W.ownsRow w.heap.size 60 1 v m xs → Only v.ownBlock.toList W W' → BSet W' x ws := fun h hr ho => h.only ho (own_apart hr h.1 (by decide));have hs36 : ∀ {x : Nat} {ws : List Nat}, BSet w3 x ws → BSet ((w6.setCell ⟨w.heap.size, 1, none⟩ (.slice A1' (k + 1) c1')).setCell ⟨w.heap.size, 2, none⟩ (.slice A2' (k + 1) c2')) x ws := fun {x ws} h => by
    have h4 := h.only OA4 (by simp);have h6 : BSet w6 x ws := hset h4 (own_only HR2.out OA4 (fun _ _ => by simp)) OV2;exact h6.only OS (by simp; exact fun e => h6.1.apart HP6.out (by decide) e)
   have hs13 : ∀ {x : Nat} {ws : List Nat}, BSet (w1.alloc (.cells #[.pointer (some ⟨wr.heap.size, 0, none⟩)] 60)) x ws → BSet w3 x ws := fun h => hset h (own_only HGG.out.row1 OA (fun _ _ => by simp)) OV;have hX : ∀ x ∈ po ++ qi, x < wr.heap.size := fun x hx => (HGG.out.sets x hx).1.lt
   case rel =>
    refine ⟨k + 1, by go_num, by omega, O6.step OS (fun i hi hl => by simp at hi; omega), Hd ⟨A1', A2', c1', c2', po ++ [wr.heap.size], qi ++ [w3.heap.size], ?_⟩⟩;refine ⟨by simpa using (HP6.out.put 1 (.slice A1' (k + 1) c1')).put 2 (.slice A2' (k + 1) c2'), ?_, ?_, by simp [HGG.out.len1], by simp [HGG.out.len2], ?_, ?_, ?_, Nat.le_refl _⟩
    ·have h := own_only (own_only HW1.out OA4 (fun _ _ => by simp)) OV2 (fun g hg => hap1 g (by rw [hg]; simp));have h' := own_only h OS (fun g hg => by simp; exact fun e => own_apart h HP6.out (by decide) (by rw [hg, e]; simp))
     simpa [ptrs] using h'
    ·have h' := own_only HW2.out OS (fun g hg => by simp; exact fun e => own_apart HW2.out HP6.out (by decide) (by rw [hg, e]; simp))
     simpa [ptrs] using h'
    ·intro x hx;simp only [List.mem_append, List.mem_singleton] at hx;rcases hx with (hx | hx) | (hx | hx)
     ·have h0 := HGG.out.sets x (by simp [hx]);exact ⟨hs36 (hs13 (h0.1.only OA (by simp))), h0.2⟩
     ·subst hx;exact ⟨hs36 (hs13 (HB1.out.only ((Only.refl [] w1).alloc _) (by simp))), by omega⟩
     ·have h0 := HGG.out.sets x (by simp [hx]);exact ⟨hs36 (hs13 (h0.1.only OA (by simp))), h0.2⟩
     ·subst hx;have h4 := HB4.out.only ((Only.refl [] w4).alloc (.cells #[.pointer (some ⟨w3.heap.size, 0, none⟩)] 60)) (by simp);have h6 : BSet w6 w3.heap.size (makeW []) := hset h4 (own_only HR2.out OA4 (fun _ _ => by simp)) OV2;exact ⟨h6.only OS (by simp; exact fun e => h6.1.apart HP6.out (by decide) e), by omega⟩
    ·have hnd := HGG.out.nodup;have hxp : ∀ x ∈ po, x < wr.heap.size := fun x hx => hX x (by simp [hx]);have hxq : ∀ x ∈ qi, x < wr.heap.size := fun x hx => hX x (by simp [hx]);rw [List.nodup_append] at hnd ⊢;refine ⟨?_, ?_, ?_⟩
     ·rw [List.nodup_append];exact ⟨hnd.1, by simp, fun a ha b hb => by simp at hb; have := hxp a ha; omega⟩
     ·rw [List.nodup_append];exact ⟨hnd.2.1, by simp, fun a ha b hb => by simp at hb; have := hxq a ha; omega⟩
     ·intro a ha b hb;simp only [List.mem_append, List.mem_singleton] at ha hb;rcases ha with ha | ha <;> rcases hb with hb | hb
      ·exact hnd.2.2 a ha b hb
      ·have := hxp a ha; omega
      ·have := hxq b hb; omega
      ·omega
    ·intro g hg hg2;rcases hat2 with h | h
     ·rw [h] at hg2;exact hap1 g hg hg2
     ·rw [h] at hg2;simp at hg2;have := hl1 g hg;omega
   case measure => simp [intOf]; omega
  ·have hkn : k = n := by omega
   subst hkn;go_wp2
   exact bodyPost_ret (v := .tuple #[.pointer (some ⟨w.heap.size, 0, none⟩), .int .i64 0]) (by simp [results, Tryd.results31, go_sem]) rfl ⟨rfl, ⟨_, _, _, _, _, _, HGG.out⟩, hO⟩
end Go.Proofs.YtlnlppabeddclaaDoor
