/- The document's own graph (ref 19): Put, Undo, Of. -/
import Derived.Test.YtlipapclbemjjaaDoorCloseThinCardK26
import Derived.ArgAppend
set_option linter.unusedVariables false
set_option linter.unusedSimpArgs false
namespace Go.Proofs.YtlipapclbemjjaaDoor
open Go.RowKit
attribute [local go_sem ↓] Go.wp_at_zero Go.wp_at_succ
structure RGC (w : World) (p N : Nat) (A : Option Addr) (c : Nat) (h : List (Int × Int)) : Prop where
 blk : Blk w p 72 #[.int .i64 N, .slice A h.length c]
 read : Row w w.heap.size A (edgeC h)
 nil : A = none → h.length = 0 ∧ c = 0
 cap : h.length ≤ c ∧ c ≤ maxLen
 ext : w.ownsRow 0 47 2 (.slice A h.length c) h.length (edgeC h) ∨ c = h.length
 typed : ∀ g, (Value.slice A h.length c).ownBlock = some g → ∃ cur, Blk w g 47 cur
/-- At p lies the document's graph of N nodes with the edges h. -/
def RG (w : World) (p N : Nat) (h : List (Int × Int)) (fp : List Nat) : Prop := ∃ A c, RGC w p N A c h ∧ p ∈ fp ∧ ∀ g ∈ (Value.slice A h.length c).ownBlock.toList, g ∈ fp
theorem RGC.only {w w' : World} {p N : Nat} {A : Option Addr} {c : Nat} {h : List (Int × Int)} {S : List Nat} (g : RGC w p N A c h) (ho : Only S w w') (hp : p ∉ S) (hS : ∀ b ∈ (Value.slice A h.length c).ownBlock.toList, b ∉ S) : RGC w' p N A c h := by
 refine ⟨ho.blk g.blk hp, ?_, g.nil, g.cap, ?_, ?_⟩
 ·rcases g.read with h0 | ⟨b, off, hA, hb, _, hc⟩
  ·exact .inl h0
  ·refine .inr ⟨b, off, hA, Nat.lt_of_lt_of_le hb ho.size, Nat.le_refl _, fun j u hu => ?_⟩
   exact (ho.cell (p := ⟨b, off + j, none⟩) hb (hS b (by rw [hA]; simp [Value.ownBlock]))).trans (hc j u hu)
 ·rcases g.ext with h0 | h0
  ·exact .inl (own_only h0 ho (fun b hb => hS b (by rw [hb]; simp)))
  ·exact .inr h0
 ·intro b hb
  obtain ⟨cur, hc⟩ := g.typed b hb
  exact ⟨cur, ho.blk hc (hS b (by rw [hb]; simp))⟩
theorem RG.only {w w' : World} {p N : Nat} {h : List (Int × Int)} {fp S : List Nat} (g : RG w p N h fp) (ho : Only S w w') (hS : ∀ b ∈ fp, b ∉ S) : RG w' p N h fp := by
 obtain ⟨A, c, g, mp, m1⟩ := g
 exact ⟨A, c, g.only ho (hS p mp) (fun b hb => hS b (m1 b hb)), mp, m1⟩
def rB (N : Nat) (h : List (Int × Int)) (a b : Int) : Bool := ndN N a && ndN N b && !decide ((a, b) ∈ h)
def rH (N : Nat) (h : List (Int × Int)) (e : Int × Int) : List (Int × Int) := if rB N h e.1 e.2 = true then h ++ [e] else h
set_option maxHeartbeats 1000000 in
theorem rput_arg (p N : Nat) (h : List (Int × Int)) (fp : List Nat) (a b : Int) (w : World) (hg : RG w p N h fp) (hab : (ndN N a && ndN N b) = false) :
  Calls Tryd.prog 45 #[.pointer (some ⟨p, 0, none⟩), .int .i64 a, .int .i64 b] w fun e w' => e = .returned (.tuple #[.bool false, .int .i64 2]) ∧ w = w' := by
 obtain ⟨A, c, g, mp, m1⟩ := hg
 have h0 := g.blk.at_ 0
 simp at h0
 have hor : a < 0 ∨ (0 ≤ a ∧ b < 0) ∨ (0 ≤ a ∧ 0 ≤ b ∧ (N : Int) ≤ a) ∨ (0 ≤ a ∧ 0 ≤ b ∧ a < (N : Int) ∧ (N : Int) ≤ b) := by
  have h2 : ¬ ((0 ≤ a ∧ a < N) ∧ 0 ≤ b ∧ b < N) := by
   intro hh
   rw [Bool.and_eq_false_iff] at hab
   simp only [ndN, decide_eq_false_iff_not] at hab
   omega
  omega
 clear g hab
 rcases hor with b1 | ⟨b1, b2⟩ | ⟨b1, b2, b3⟩ | ⟨b1, b2, b3, b4⟩
 ·go_enter Tryd.func45, Tryd.ntmps45
  go_wp2
  exact bodyPost_ret (v := .tuple #[.bool false, .int .i64 2]) (by simp [results, Tryd.results45, go_sem]) rfl ⟨rfl, rfl⟩
 ·have b1' : ¬ a < 0 := by omega
  go_enter Tryd.func45, Tryd.ntmps45
  go_wp2
  exact bodyPost_ret (v := .tuple #[.bool false, .int .i64 2]) (by simp [results, Tryd.results45, go_sem]) rfl ⟨rfl, rfl⟩
 ·have b1' : ¬ a < 0 := by omega
  have b2' : ¬ b < 0 := by omega
  go_enter Tryd.func45, Tryd.ntmps45
  go_wp2
  exact bodyPost_ret (v := .tuple #[.bool false, .int .i64 2]) (by simp [results, Tryd.results45, go_sem]) rfl ⟨rfl, rfl⟩
 ·have b1' : ¬ a < 0 := by omega
  have b2' : ¬ b < 0 := by omega
  have b3' : ¬ (N : Int) ≤ a := by omega
  go_enter Tryd.func45, Tryd.ntmps45
  go_wp2
  exact bodyPost_ret (v := .tuple #[.bool false, .int .i64 2]) (by simp [results, Tryd.results45, go_sem]) rfl ⟨rfl, rfl⟩
set_option maxHeartbeats 1000000 in
theorem rput_old (p N : Nat) (h : List (Int × Int)) (fp : List Nat) (k l : Nat) (w : World) (hg : RG w p N h fp) (hk : k < N) (hl : l < N) (hin : ((k : Int), (l : Int)) ∈ h) (hm : h.length ≤ 1000000) :
  Calls Tryd.prog 45 #[.pointer (some ⟨p, 0, none⟩), .int .i64 (k : Int), .int .i64 (l : Int)] w fun e w' => e = .returned (.tuple #[.bool false, .int .i64 0]) ∧ w = w' := by
 obtain ⟨A, c, g, mp, m1⟩ := hg
 have h0 := g.blk.at_ 0
 have h1 := g.blk.at_ 1
 simp at h0 h1
 have hh := rhas_any p A h.length c h (k : Int) (l : Int) w h1 rfl g.read hm
 rw [decide_eq_true hin] at hh
 have HH := Lib.hid hh
 have b1' : ¬ (k : Int) < 0 := by omega
 have b2' : ¬ (l : Int) < 0 := by omega
 have b3' : ¬ (N : Int) ≤ (k : Int) := by omega
 have b4' : ¬ (N : Int) ≤ (l : Int) := by omega
 have b5' : ¬ N ≤ k := by omega
 have b6' : ¬ N ≤ l := by omega
 clear g hin hh
 go_enter Tryd.func45, Tryd.ntmps45
 go_wp2_with fail
 refine (HH.out).mono ?_
 rintro e w1 ⟨rfl, rfl⟩
 go_wp2
 exact bodyPost_ret (v := .tuple #[.bool false, .int .i64 0]) (by simp [results, Tryd.results45, go_sem]) rfl ⟨rfl, rfl⟩
/-- What is left behind the append and the store. -/
theorem rg_put {w w3 : World} {p N : Nat} {A A' : Option Addr} {c c' : Nat} {h : List (Int × Int)} {fp : List Nat} {e : Int × Int} (g : RGC w p N A c h) (mp : p ∈ fp) (m1 : ∀ b ∈ (Value.slice A h.length c).ownBlock.toList, b ∈ fp)
  (hO : Only (Value.slice A h.length c).ownBlock.toList w w3) (hown : w3.ownsRow 0 47 2 (.slice A' (h.length + 1) c') (h.length + 1) (edgeC h ++ [.int .i64 e.1, .int .i64 e.2])) (hcm : c' ≤ maxLen)
  (hnew : ∀ b ∈ (Value.slice A' (h.length + 1) c').ownBlock.toList, b ∈ fp ∨ w.heap.size ≤ b) :
  ∃ fp', RG (w3.setCell ⟨p, 1, none⟩ (.slice A' (h.length + 1) c')) p N (h ++ [e]) fp' ∧ Only fp w (w3.setCell ⟨p, 1, none⟩ (.slice A' (h.length + 1) c')) ∧ ∀ b ∈ fp', b ∈ fp ∨ w.heap.size ≤ b := by
 have hpo : p ∉ (Value.slice A h.length c).ownBlock.toList := fun hm => by
  obtain ⟨cur, hc⟩ := g.typed p (by simpa using hm)
  exact hc.apart g.blk (by decide) rfl
 have hP3 := hO.blk g.blk hpo
 have OS : Only [p] w3 (w3.setCell ⟨p, 1, none⟩ (.slice A' (h.length + 1) c')) := (Only.refl _ w3).put (by simp) _
 have hown' := own_only hown OS (fun b hb => by simp; exact fun e => own_apart hown hP3 (by decide) (by rw [hb, e]; simp))
 have hlen : (h ++ [e]).length = h.length + 1 := by simp
 have hec : edgeC (h ++ [e]) = edgeC h ++ [.int .i64 e.1, .int .i64 e.2] := by rw [edgeC_append]; rfl
 obtain ⟨A2, c2, heq, hn2, -, -, hrow⟩ := own_row hown'
 simp only [Value.slice.injEq, true_and] at heq
 obtain ⟨rfl, rfl⟩ := heq
 refine ⟨fp ++ (Value.slice A' (h.length + 1) c').ownBlock.toList, ⟨A', c', ⟨?_, by rw [hec]; exact hrow, ?_, by rw [hlen]; exact ⟨hn2, hcm⟩, .inl (by rw [hlen, hec]; exact hown'), ?_⟩, List.mem_append_left _ mp, fun b hb => List.mem_append_right _ (by rw [hlen] at hb; exact hb)⟩, ?_, ?_⟩
 ·rw [hlen]
  simpa using hP3.put 1 (.slice A' (h.length + 1) c')
 ·intro hA
  subst hA
  rcases hown.2 with ⟨h1, h2⟩ | ⟨g', cap, cur, h1, _⟩
  ·omega
  ·simp at h1
 ·intro b hb
  rw [hlen] at hb
  exact own_blk hown' hb
 ·exact (hO.wide (fun i hi _ => m1 i hi)).step OS (fun i hi _ => by simp at hi; rw [hi]; exact mp)
 ·intro b hb
  rcases List.mem_append.1 hb with hb | hb
  ·exact .inl hb
  ·exact hnew b hb
set_option maxHeartbeats 2000000 in
theorem rput_new (p N : Nat) (h : List (Int × Int)) (fp : List Nat) (k l : Nat) (w : World) (hg : RG w p N h fp) (hk : k < N) (hl : l < N) (hin : ((k : Int), (l : Int)) ∉ h) (hm : h.length ≤ 1000000) :
  Calls Tryd.prog 45 #[.pointer (some ⟨p, 0, none⟩), .int .i64 (k : Int), .int .i64 (l : Int)] w fun e w' => e = .returned (.tuple #[.bool true, .int .i64 0]) ∧
   ∃ fp', RG w' p N (h ++ [((k : Int), (l : Int))]) fp' ∧ Only fp w w' ∧ ∀ b ∈ fp', b ∈ fp ∨ w.heap.size ≤ b := by
 obtain ⟨i0, hi, hz0, hz1, hz2⟩ := info_parts info_edge
 obtain ⟨A, c, g, mp, m1⟩ := hg
 have h0 := g.blk.at_ 0
 have h1 := g.blk.at_ 1
 simp at h0 h1
 have hh := rhas_any p A h.length c h (k : Int) (l : Int) w h1 rfl g.read hm
 rw [decide_eq_false hin] at hh
 have HH := Lib.hid hh
 have b1' : ¬ (k : Int) < 0 := by omega
 have b2' : ¬ (l : Int) < 0 := by omega
 have b3' : ¬ (N : Int) ≤ (k : Int) := by omega
 have b4' : ¬ (N : Int) ≤ (l : Int) := by omega
 have b5' : ¬ N ≤ k := by omega
 have b6' : ¬ N ≤ l := by omega
 have HG := Lib.hid g
 have hpo : Hid (p ∉ (Value.slice A h.length c).ownBlock.toList) := Lib.hid fun hm => by
  obtain ⟨cur, hc⟩ := HG.out.typed p (by simpa using hm)
  exact hc.apart HG.out.blk (by decide) rfl
 have hcase := Lib.hid g.ext
 clear g hin hh
 have fin : ∀ v' w3, w3.ownsRow 0 47 2 v' (h.length + 1) (edgeC h ++ [.int .i64 (k : Int), .int .i64 (l : Int)]) → Only (Value.slice A h.length c).ownBlock.toList w w3 → (∀ b ∈ v'.ownBlock.toList, b ∈ fp ∨ w.heap.size ≤ b) →
   ∃ A' c', v' = .slice A' (h.length + 1) c' ∧ w3.cell? ⟨p, 1, none⟩ = some (.slice A h.length c) ∧ w3.frozen? ⟨p, 1, none⟩ = false ∧
    Hid (∃ fp', RG (w3.setCell ⟨p, 1, none⟩ (.slice A' (h.length + 1) c')) p N (h ++ [((k : Int), (l : Int))]) fp' ∧ Only fp w (w3.setCell ⟨p, 1, none⟩ (.slice A' (h.length + 1) c')) ∧ ∀ b ∈ fp', b ∈ fp ∨ w.heap.size ≤ b) := by
  intro v' w3 hown hO hnew
  obtain ⟨A', c', rfl, hd1, hd2, -, -⟩ := own_row hown
  have hP3 := hO.blk HG.out.blk hpo.out
  exact ⟨A', c', rfl, hP3.at_ 1, hP3.free 1, Lib.hid (rg_put (e := ((k : Int), (l : Int))) HG.out mp m1 hO hown hd2 hnew)⟩
 have FIN := Lib.hid fin
 clear fin
 rcases hcase.out with hown0 | rfl
 ·have HOWN0 := Lib.hid hown0
  clear hown0
  go_enter Tryd.func45, Tryd.ntmps45
  go_wp2_with fail
  refine (HH.out).mono ?_
  rintro e w1 ⟨rfl, rfl⟩
  go_wp2_with (
   at_builtin
   refine wpList_append_row _ rfl (.tmp 38) (.tmp 42) 22 rfl 0 47 i0 _ 2 16 Tryd.underlying22 hi hz0 hz1 hz2 rfl (by omega) (.slice A h.length c) h.length (edgeC h) (by rfl) (own_only HOWN0.out ((Only.refl [] w).alloc (.cells #[.int .i64 (k : Int), .int .i64 (l : Int)] 47)) (fun _ _ => by simp)) _ _ 1 1 [.int .i64 (k : Int), .int .i64 (l : Int)] (by rfl) (by simp) (row_lit _ _ _) (by intro u hu; simp at hu; rcases hu with rfl | rfl <;> rfl) (by unfold maxLen; omega) (by omega) (by omega) ?_
   intro v' w3 hown hgrow hat
   have OW := ((Only.refl [] w).alloc (.cells #[.int .i64 (k : Int), .int .i64 (l : Int)] 47))
   have OV := only_grown hgrow
   obtain ⟨A', c', rfl, t1, t1f, HF⟩ := FIN.out v' w3 hown ((OW.wide (by simp)).step OV (fun i hi _ => hi)) (fun b hb => by
    rcases hat with he | he
    ·rw [he] at hb; exact .inl (m1 b hb)
    ·rw [he] at hb; simp at hb; exact .inr (by omega))
   clear hown hgrow hat OV OW)
  exact bodyPost_ret (v := .tuple #[.bool true, .int .i64 0]) (by simp [results, Tryd.results45, go_sem]) rfl ⟨rfl, HF.out⟩
 ·go_enter Tryd.func45, Tryd.ntmps45
  go_wp2_with fail
  refine (HH.out).mono ?_
  rintro e w1 ⟨rfl, rfl⟩
  go_wp2_with (
   at_builtin
   have OW := ((Only.refl [] w).alloc (.cells #[.int .i64 (k : Int), .int .i64 (l : Int)] 47))
   refine wpList_append_grows _ rfl (.tmp 38) (.tmp 42) 22 rfl 47 i0 _ 2 16 Tryd.underlying22 hi hz0 hz1 hz2 rfl (by omega) A h.length h.length (edgeC h) (by rfl) HG.out.nil (edgeC_len h) (fun ad had j u hu => ?_) ⟨w.heap.size, 0, none⟩ 1 1 [.int .i64 (k : Int), .int .i64 (l : Int)] (by rfl) (by simp) (fun j u hu => ?_)
    (by intro u hu; simp at hu; rcases hu with rfl | rfl <;> rfl) (by omega) (by unfold maxLen; omega) (by omega) ?_
   ·have hr := (HG.out.only OW (by simp) (fun _ _ => by simp)).read
    rcases hr with h0 | ⟨b, off, hA, hb, _, hc⟩
    ·rw [h0] at hu; cases hu
    ·rw [had] at hA
     injection hA with hA
     subst hA
     have := hc j u hu
     unfold Addr.add
     split
     ·rename_i h0; subst h0; exact this
     ·exact this
   ·rw [Addr.add_lit, Nat.zero_add, (Blk.made w _ _).at_ j]
    simpa using hu
   intro v' w3 hown hgrow
   have OV : Only [] (w.alloc (.cells #[.int .i64 (k : Int), .int .i64 (l : Int)] 47)) w3 := Only.of_grown hgrow (fun g hg _ => by cases hg)
   obtain ⟨A', c', rfl, t1, t1f, HF⟩ := FIN.out v' w3 (own_mono0 hown) ((OW.trans OV).wide (by simp)) (fun b hb => by
    have := (hown.lt b (by simpa using hb)).1
    rw [World.size_alloc] at this
    exact .inr (by omega))
   clear hown hgrow OV OW)
  exact bodyPost_ret (v := .tuple #[.bool true, .int .i64 0]) (by simp [results, Tryd.results45, go_sem]) rfl ⟨rfl, HF.out⟩
end Go.Proofs.YtlipapclbemjjaaDoor
