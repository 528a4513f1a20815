/- Parts. -/
import Derived.Test.YtlemjgjpglmphaaDoorPartOfCardK34
import Derived.Test.YtlemjgjpglmphaaDoorPartOfCardK35
import Derived.Test.YtlemjgjpglmphaaDoorPartOfCardK36
set_option maxRecDepth 10000
set_option maxHeartbeats 16000000
set_option linter.unusedVariables false
set_option linter.unusedSimpArgs false
namespace Go.Proofs.YtlemjgjpglmphaaDoor
open Go.RowKit
open Go.Lib hiding intOf
attribute [local go_sem ↓] Go.wp_at_zero Go.wp_at_succ
structure LP where
 b : Nat
 c : Nat
 L : List Int
def LP.v (x : LP) : Value := .slice (some ⟨x.b, 0, none⟩) x.L.length x.c
def LP.Ok (x : LP) (w : World) (base : Nat) : Prop := w.ownsRow base 3 1 x.v x.L.length (x.L.map (Value.int .i64)) ∧ x.L ≠ [] ∧ ∀ z ∈ x.L, 0 ≤ z ∧ z < 500
theorem LP.Ok.only {x : LP} {w w' : World} {base : Nat} {S : List Nat} (h : x.Ok w base) (O : Only S w w') (hS : x.b ∉ S) : x.Ok w' base :=
 ⟨own_only h.1 O (fun g hg hm => by simp [LP.v, Value.ownBlock] at hg; subst hg; exact hS hm), h.2.1, h.2.2⟩
theorem LP.Ok.head {x : LP} {w : World} {base : Nat} (h : x.Ok w base) : w.cell? ⟨x.b, 0, none⟩ = some (.int .i64 (headI x.L)) ∧ x.b < w.heap.size ∧ 0 < x.L.length ∧ 0 ≤ headI x.L ∧ headI x.L < 500 := by
 obtain ⟨h1, h2, h3⟩ := h
 cases hl : x.L with
 | nil => exact absurd hl h2
 | cons z r =>
  refine ⟨(own_cell h1 (g := x.b) rfl (j := 0) (by rw [hl]; rfl)).1, own_lt h1 (by simp [LP.v, Value.ownBlock]), by simp, ?_⟩;exact h3 z (by rw [hl]; simp)
theorem pcmp_ex (b1 m1 c1 b2 m2 c2 : Nat) (x y : Int) (W : World) (h1 : W.cell? ⟨b1, 0, none⟩ = some (.int .i64 x)) (h2 : W.cell? ⟨b2, 0, none⟩ = some (.int .i64 y)) (l1 : b1 < W.heap.size) (l2 : b2 < W.heap.size) (p1 : 0 < m1) (p2 : 0 < m2)
  (hx : 0 ≤ x ∧ x < 500) (hy : 0 ≤ y ∧ y < 500) :
  Calls Tryd.prog 34 #[.slice (some ⟨b1, 0, none⟩) m1 c1, .slice (some ⟨b2, 0, none⟩) m2 c2] W fun e w' => e = .returned (.int .i64 (x - y)) ∧ ∃ d, W.drewN d = w' := by
 have q1 : (0 : Int) < (m1 : Int) := by omega
 have q2 : (0 : Int) < (m2 : Int) := by omega
 have q3 : IntKind.i64.wrap (x - y) = x - y := IntWalk.i64_in _ (by omega);go_enter Tryd.func34, Tryd.ntmps34;go_wp2_with fail
 go_quiet (fail)
 go_wp2
 go_ret
 exact ⟨rfl, _, rfl⟩
def PGood (w : World) (g : Nat) (x : LP) : Prop := x.b ≠ g ∧ w.cell? ⟨x.b, 0, none⟩ = some (.int .i64 (headI x.L)) ∧ x.b < w.heap.size ∧ 0 < x.L.length ∧ 0 ≤ headI x.L ∧ headI x.L < 500
abbrev PT (w : World) (g : Nat) : Type := { x : LP // PGood w g x }
def cmpH {w : World} {g : Nat} (x y : PT w g) : Int := headI x.1.L - headI y.1.L
def encH {w : World} {g : Nat} (x : PT w g) : Value := x.1.v
theorem ltH_iff {w : World} {g : Nat} (x y : PT w g) : ltOf (cmpH (w := w) (g := g)) x y = decide (headI x.1.L < headI y.1.L) := by
 unfold ltOf cmpH;rw [decide_eq_decide];omega
theorem ltH_swo (w : World) (g : Nat) : Go.Sort.SWO (ltOf (cmpH (w := w) (g := g))) where
 irrefl x := by rw [ltH_iff]; simp
 trans x y z h1 h2 := by
  rw [ltH_iff, decide_eq_true_iff] at *;omega
 ntrans x y z h1 h2 := by
  rw [ltH_iff, decide_eq_false_iff_not] at *;omega
theorem psort_own {w : World} {base g c : Nat} (ps : List LP) (hne : ps ≠ []) (h : w.ownsRow base 29 1 (.slice (some ⟨g, 0, none⟩) ps.length c) ps.length (ps.map LP.v)) (hp : ∀ x ∈ ps, PGood w g x) (hl : ps.length ≤ 100000) :
  Calls Tryd.prog 33 #[.slice (some ⟨g, 0, none⟩) ps.length c, .func (.func 34) #[] #[]] w fun e w' => e = .returned (.tuple #[]) ∧ ∃ qs : List LP, qs.Perm ps ∧ qs.Pairwise (fun a b => ¬ headI b.L < headI a.L) ∧
   w'.ownsRow base 29 1 (.slice (some ⟨g, 0, none⟩) qs.length c) qs.length (qs.map LP.v) ∧ Only [g] w w' := by
 obtain ⟨dl, hdl⟩ : ∃ dl : List (PT w g), dl.map (fun x : PT w g => x.1) = ps := by
  refine ⟨ps.attach.map fun x => (⟨x.1, hp x.1 x.2⟩ : PT w g), ?_⟩;rw [List.map_map];exact List.attach_map_subtype_val ps
 have hdn : dl.length = ps.length := by rw [← hdl, List.length_map]
 have hde : dl.map encH = ps.map LP.v := by rw [← hdl, List.map_map]; rfl
 obtain ⟨x0, hx0⟩ : ∃ x0, x0 ∈ dl := by
  cases dl with
  | nil => exact absurd (by rw [← hdl]; rfl) hne
  | cons x _ => exact ⟨x, List.mem_cons_self⟩
 letI : Inhabited (PT w g) := ⟨x0⟩
 have hlt := own_lt h (g := g) (by simp [Value.ownBlock]);have hH := own_holds (encH (w := w) (g := g)) dl.toArray (by rw [List.toList_toArray, hde]; exact h);have hcmp : CmpLays1 Tryd.prog 34 #[] (encH (w := w) (g := g)) cmpH g 0 dl.toArray.size w := by
  intro m os dk hdk x y;have hx := x.2;have hy := y.2;have hc : ∀ z : PT w g, (sortWorld (encH (w := w) (g := g)) w g 0 m dk os).cell? ⟨z.1.b, 0, none⟩ = some (.int .i64 (headI z.1.L)) := fun z => by
   exact (Only.cell (own_laid (encH (w := w) (g := g)) h m dk os (by rw [hdk]; simpa using hdn)).2 (p := ⟨z.1.b, 0, none⟩) z.2.2.2.1 (by simpa using z.2.1)).trans z.2.2.1
  have hs : w.heap.size ≤ (sortWorld (encH (w := w) (g := g)) w g 0 m dk os).heap.size := (own_laid (encH (w := w) (g := g)) h m dk os (by rw [hdk]; simpa using hdn)).2.size;have e : (#[encH x, encH y] ++ #[] : Array Value) = #[.slice (some ⟨x.1.b, 0, none⟩) x.1.L.length x.1.c, .slice (some ⟨y.1.b, 0, none⟩) y.1.L.length y.1.c] := by simp [encH, LP.v]
  rw [e];refine (pcmp_ex _ _ _ _ _ _ _ _ _ (hc x) (hc y) (Nat.lt_of_lt_of_le hx.2.2.1 hs) (Nat.lt_of_lt_of_le hy.2.2.1 hs) hx.2.2.2.1 hy.2.2.2.1 hx.2.2.2.2 hy.2.2.2.2).mono fun e w' ⟨he, d, hd⟩ => ⟨he, d, #[], ?_⟩;rw [Go.Sort.grow_empty, hd]
 have hs := Any.slices_SortFunc Tryd.laysSort (encH (w := w) (g := g)) (fun _ => rfl) cmpH (ltH_swo w g) 34 #[] g 0 c dl.toArray w (enters_of Tryd.func34 (by kernel_rfl) rfl) hcmp hH hlt (by simp [hdn]; omega);have hsz : dl.toArray.size = ps.length := by simp [hdn]
 rw [hsz] at hs;refine Calls.mono hs ?_;rintro e w' ⟨rfl, d', q, os, ⟨hp1, -, hp2⟩, hso, rfl⟩;obtain ⟨ms⟩ := d';have hmn : ms.length = ps.length := by simpa [hdn] using hp1
 have hx1 : (dl.toArray.extract 0 ps.length).toList = dl := by simp [← hdn]
 have hx2 : ((Array.mk ms).extract 0 ps.length).toList = ms := by simp [← hmn]
 rw [hx1, hx2] at hp2;obtain ⟨h1, h2⟩ := own_laid (encH (w := w) (g := g)) h q (Array.mk ms) os (by simpa using hmn);refine ⟨rfl, ms.map (fun x : PT w g => x.1), by rw [← hdl]; exact hp2.map _, ?_, ?_, h2⟩
 ·rw [List.pairwise_map, List.pairwise_iff_getElem];intro i j hi hj hij;have h3 := hso i j (Nat.zero_le _) hij (by omega);rw [getElem!_pos (Array.mk ms) i (by simpa using hi), getElem!_pos (Array.mk ms) j (by simpa using hj)] at h3;rw [ltH_iff, decide_eq_false_iff_not] at h3;exact h3
 ·have e1 : (ms.map (fun x : PT w g => x.1)).length = ps.length := by rw [List.length_map, hmn]
  have e2 : (ms.map (fun x : PT w g => x.1)).map LP.v = ms.map encH := by rw [List.map_map]; rfl
  rw [e1, e2];exact h1
theorem pins_none (fv : Value) (w : World) :
  Calls Tryd.prog 59 #[.slice none 0 0, .int .i64 0, .int .i64 0, fv] w fun e w' => e = .returned (.tuple #[]) ∧ w = w' := by
 go_enter Tryd.func59, Tryd.ntmps59;go_wp2
 refine wp_loop_rounds 1 ?_;rw [rounds_succ];go_wp2
 go_end0
 exact ⟨rfl, rfl⟩
theorem ppdq_none (lim : Int) (fv : Value) (w : World) :
  Calls Tryd.prog 44 #[.slice none 0 0, .int .i64 0, .int .i64 0, .int .i64 lim, fv] w fun e w' => e = .returned (.tuple #[]) ∧ w = w' := by
 have HI := Hd (fun w' => pins_none fv w');go_enter Tryd.func44, Tryd.ntmps44;go_wp2
 refine wp_loop_rounds 1 ?_;rw [rounds_succ];go_wp2_with fail
 refine (HI.out _).mono ?_;rintro e w' ⟨rfl, rfl⟩;go_wp2
 (try simp only [Exit.inBlock, Exit.then]); refine bodyPost_ret (results_none rfl _ _ _) rfl ?_
 exact ⟨rfl, rfl⟩
theorem plen_none (w : World) : Calls Tryd.prog 43 #[.int .u64 0] w fun e w' => e = .returned (.int .i64 0) ∧ w' = w :=
 Any.bits_Len (SlLaysF0.n15.bits (P := Tryd.prog) (ρ := Tryd.laysSort_ren) { Tryd.laysSort with }) 0 w (by omega) (by omega)
theorem psortf_none (fv : Value) (w : World) :
  Calls Tryd.prog 33 #[.slice none 0 0, fv] w fun e w' => e = .returned (.tuple #[]) ∧ w = w' := by
 have HP := Hd (fun w' => ppdq_none 0 fv w');have HL := Hd (fun w' => plen_none w');have hw : IntKind.u64.wrap 0 = 0 := by rfl
 go_enter Tryd.func33, Tryd.ntmps33;go_wp2_with fail
 refine (HL.out _).mono ?_;rintro e w' ⟨rfl, rfl⟩;go_wp2_with fail
 refine (HP.out _).mono ?_;rintro e w' ⟨rfl, rfl⟩;go_wp2
 go_end0
 exact ⟨rfl, rfl⟩
end Go.Proofs.YtlemjgjpglmphaaDoor
