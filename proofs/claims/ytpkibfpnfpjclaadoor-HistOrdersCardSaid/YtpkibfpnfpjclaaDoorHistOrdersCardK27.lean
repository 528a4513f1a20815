/- known.Lost: where reads stand that were lost. -/
import Derived.Test.YtpkibfpnfpjclaaDoorHistOrdersCardK26
set_option linter.unusedVariables false
set_option linter.unusedSimpArgs false
namespace Go.Proofs.YtpkibfpnfpjclaaDoor
open Go.RowKit Go.Shelf
open Go.Lib hiding intOf
attribute [local go_sem] Oper.semAt_some

def placeC (l : List (Int × Int)) : List Value := l.flatMap fun e => [.int .i64 e.1, .int .i64 e.2]
theorem placeC_append (l k : List (Int × Int)) : placeC (l ++ k) = placeC l ++ placeC k := by simp [placeC]
def lostP (ps : List Pl) : List (Int × Int) := (ps.filter fun x => decide (x.2.2.vk = 2)).map fun x => ((x.1 : Int), (x.2.1 : Int))
theorem lostP_hit (pre : List Pl) {x : Pl} (h : x.2.2.vk = 2) : lostP (pre ++ [x]) = lostP pre ++ [((x.1 : Int), (x.2.1 : Int))] := by simp [lostP, h]
theorem lostP_miss (pre : List Pl) {x : Pl} (h : ¬ x.2.2.vk = 2) : lostP (pre ++ [x]) = lostP pre := by simp [lostP, h]
theorem lostP_le (pre : List Pl) : (lostP pre).length ≤ pre.length := by
  unfold lostP
  rw [List.length_map]
  exact List.length_filter_le _ _
theorem info_place : (Tryd.prog.info? 58).map (fun i => (i.zero, i.size, i.bytes)) = some (some (.agg #[.int .i64 0, .int .i64 0]), 2, 16) := by kernel_rfl
theorem cell_two_new (w : World) (x y : Value) (t : TypeId) : ∀ j u, [x, y][j]? = some u → (w.alloc (.cells #[x, y] t)).cell? ((⟨w.heap.size, 0, none⟩ : Addr).add j) = some u := by
  intro j u hj
  have e : (⟨w.heap.size, 0, none⟩ : Addr).add j = ⟨w.heap.size, j, none⟩ := by
    unfold Addr.add
    split
    · rename_i h; subst h; rfl
    · simp
  rw [e, (Blk.made w t #[x, y]).at_ j]
  simpa using hj
theorem blk_own {β : Type} (B : Nat) (t : TypeId) (f : β → Array Value) : Own (fun s W => Blk W B t (f s)) := fun s X Y row hs hg hrow =>
  (hg.block B hs.lt (fun e' => by obtain ⟨o, ho, hc⟩ := hrow B e'.symm; rw [show X.heap[B]? = _ from hs] at ho; cases ho; cases hc)).trans hs

set_option maxRecDepth 100000 in
set_option maxHeartbeats 4000000 in
theorem lost_in (F : Fence) (n : Nat) (hf0 : F.fn 32) (hf1 : F.fn 45) (hf2 : F.fn 55) (hro : F.round = none) (hn : 4 ≤ n) (A0 A1 A2 : Option Addr) (n0 n1 n2 c0 c1 c2 : Nat) (h : Hst) (w : World)
    (hg : LRow w w.heap.size A2 h.l) (hn2 : h.l.length = n2) (hM : n2 ≤ 1000) (hno : ∀ t ∈ h.l, t.ops.length ≤ 1000) :
    CallsIn F n Tryd.prog 32 #[.agg #[.slice A0 n0 c0, .slice A1 n1 c1, .slice A2 n2 c2]] w fun e W' => ∃ v, e = .returned v ∧ W'.ownsRow w.heap.size 58 2 v (lostP (plsL h.l)).length (placeC (lostP (plsL h.l))) ∧ Below w.heap.size w W' := by
  have h1 : 1 ≤ n := by omega
  obtain ⟨i0, hi, hz0, hz1, hz2⟩ := info_parts info_place
  refine callsIn_of_wp_marks Tryd.func32 rfl hf0 ?_ hro
  simp only [Tryd.ntmps32, List.size_toArray, List.length_cons, List.length_nil, Nat.reduceAdd, Nat.reduceSub, Array.replicate_succ, Array.replicate_zero, List.push_toArray, List.append_toArray, List.nil_append, List.cons_append]
  gi_wp2_with (gi_at_call 45; refine (ops_in F (n - 1) hf1 hro _ _ _ _ _ _ _ _ _ _).mono ?_; rintro e w' ⟨rfl, rfl⟩)
  have bL := (Boxed.new (w.alloc (.cells #[.slice A0 n0 c0, .slice A1 n1 c1, .slice A2 n2 c2] 25)) 34 (.slice none 0 0)).alloc (.cells #[.slice A0 n0 c0, .slice A1 n1 c1, .slice A2 n2 c2] 25)
  have bN := Blk.made ((w.alloc (.cells #[.slice A0 n0 c0, .slice A1 n1 c1, .slice A2 n2 c2] 25)).alloc (.cells #[.slice none 0 0] 34)) 25 #[.slice A0 n0 c0, .slice A1 n1 c1, .slice A2 n2 c2]
  simp only [World.size_alloc] at bL bN
  have hB0 : Below w.heap.size w (((w.alloc (.cells #[.slice A0 n0 c0, .slice A1 n1 c1, .slice A2 n2 c2] 25)).alloc (.cells #[.slice none 0 0] 34)).alloc (.cells #[.slice A0 n0 c0, .slice A1 n1 c1, .slice A2 n2 c2] 25)) := (((Below.refl _ w).alloc (Nat.le_refl _) _).alloc (by simp) _).alloc (by simp; omega) _
  have hsz : (((w.alloc (.cells #[.slice A0 n0 c0, .slice A1 n1 c1, .slice A2 n2 c2] 25)).alloc (.cells #[.slice none 0 0] 34)).alloc (.cells #[.slice A0 n0 c0, .slice A1 n1 c1, .slice A2 n2 c2] 25)).heap.size = w.heap.size + 3 := by simp
  obtain ⟨W0, hW0⟩ : ∃ W0, (((w.alloc (.cells #[.slice A0 n0 c0, .slice A1 n1 c1, .slice A2 n2 c2] 25)).alloc (.cells #[.slice none 0 0] 34)).alloc (.cells #[.slice A0 n0 c0, .slice A1 n1 c1, .slice A2 n2 c2] 25)) = W0 := ⟨_, rfl⟩
  rw [hW0] at bL bN hB0 hsz ⊢
  clear hW0
  have hg0 : LRow W0 w.heap.size A2 h.l := hg.only (Only.of_below hB0 []) (fun _ h => by cases h)
  refine wpIn_rangeFunc_ownH hro h1 (gf := 55) (lb := #[.pointer (some ⟨w.heap.size + 1 + 1, 0, none⟩)]) rfl hf2 (enters_of Tryd.func55 (by kernel_rfl) rfl)
    (ops_stops F (n - 1) hf2 hro (by omega) (w.heap.size + 1 + 1) w.heap.size A2 n2 c2 h W0 (by omega) (by omega) (bN.at_ 2) hg0 hn2 hM hno) belowK_t (belowK_b (by omega)) (Below.refl _ _) (fun _ => rfl)
    (fun pre W => (∃ v, Boxed W (w.heap.size + 1) 34 v ∧ W.ownsRow w.heap.size 58 2 v (lostP pre).length (placeC (lostP pre)) ∧ True) ∧ Below w.heap.size w W)
    (fun _ _ _ => False)
    (OwnFrom.and (Own.from (holdsRow_own w.heap.size (w.heap.size + 1) 34 58 2 (fun pre => (lostP pre).length) (fun pre => placeC (lostP pre)) (fun _ _ => True)) _) (ownFrom_below (Nat.le_refl _) (by omega)))
    (fun _ _ _ _ _ hs _ _ => hs)
    ⟨⟨_, bL, World.ownsRow_nil _ _ _ _, trivial⟩, hB0⟩
    (fun x a' W => ∃ B1 B2, (Blk W B1 58 #[.int .i64 (x.1 : Int), .int .i64 (x.2.1 : Int)] ∧ Blk W B2 56 #[.bool x.2.2.wr, .int .i64 x.2.2.key, .int .i64 x.2.2.vk, .int .i64 x.2.2.vn]) ∧
      a' = { tmps := #[.agg #[.slice A0 n0 c0, .slice A1 n1 c1, .slice A2 n2 c2], .pointer (some ⟨w.heap.size, 0, none⟩), .slice none 0 0, .pointer (some ⟨w.heap.size + 1, 0, none⟩), .pointer (some ⟨B1, 0, none⟩), .pointer (some ⟨B2, 0, none⟩),
        .agg #[.slice A0 n0 c0, .slice A1 n1 c1, .slice A2 n2 c2], .func (.func 55) #[] #[.pointer (some ⟨w.heap.size + 1 + 1, 0, none⟩)], .agg #[.int .i64 (x.1 : Int), .int .i64 (x.2.1 : Int)], .agg #[.bool x.2.2.wr, .int .i64 x.2.2.key, .int .i64 x.2.2.vk, .int .i64 x.2.2.vn], undef, undef, undef, undef, undef, undef, undef, undef, undef], defers := [] })
    (fun x a' _ X Y row hs hg hr => by
      obtain ⟨B1, B2, ⟨b1, b2⟩, e⟩ := hs
      exact ⟨B1, B2, ⟨blk_own B1 _ (fun (_ : Unit) => _) () X Y row b1 hg (fun r e => (hr r e).2), blk_own B2 _ (fun (_ : Unit) => _) () X Y row b2 hg (fun r e => (hr r e).2)⟩, e⟩)
    ?assign ?body ?done ?stop
  case assign =>
    rintro l pre x W K ⟨⟨v, hv, hrow, -⟩, hB1⟩ hK
    unfold plC
    gi_wp2
    refine hK _ _ (((KeepsOthers.alloc _ _).trans (KeepsOthers.alloc _ _)).from _) (((Below.refl _ W).alloc hB1.size _).alloc (by have := hB1.size; simp; omega) _) ⟨⟨v, (hv.alloc _).alloc _, ?_, trivial⟩, (hB1.alloc hB1.size _).alloc (by have := hB1.size; simp; omega) _⟩
      ⟨W.heap.size, W.heap.size + 1, ⟨(Blk.made W _ _).alloc _, by have := Blk.made (W.alloc (.cells #[.int .i64 (x.1 : Int), .int .i64 (x.2.1 : Int)] 58)) 56 #[.bool x.2.2.wr, .int .i64 x.2.2.key, .int .i64 x.2.2.vk, .int .i64 x.2.2.vn]; simpa using this⟩, rfl⟩
    exact own_only hrow (((Only.refl [] W).alloc _).alloc _) (by simp)
  case body =>
    rintro l pre ⟨pi, pj, ⟨yw, yk, yv, yn⟩⟩ a' W hl ⟨r, hr⟩ ⟨⟨v, hv, hrow, -⟩, hB⟩ ⟨B1, B2, ⟨bP, bO⟩, rfl⟩ hlt
    have hc := hv.cell
    dsimp only at bP bO
    have p0 := bP.at_ 0
    have p1 := bP.at_ 1
    have o2 := bO.at_ 2
    have lP := bP.lt
    have lO := bO.lt
    simp at p0 p1 o2
    have hpl := lostP_le pre
    by_cases hk : yv = 2
    · subst hk
      gi_wp2_with (gi_at_builtin; refine wpListIn_append_own _ rfl _ _ 34 rfl w.heap.size 58 i0 (.agg #[.int .i64 0, .int .i64 0]) 2 16 Tryd.underlying34 hi hz0 hz1 hz2 rfl (by decide) _ _ _ rfl (hrow.alloc _) ⟨W.heap.size, 0, none⟩ 1 1 [.int .i64 (pi : Int), .int .i64 (pj : Int)] rfl rfl (cell_two_new _ _ _ _) (by intro u hu; simp at hu; rcases hu with rfl | rfl <;> rfl) (by unfold maxLen; omega) (by omega) (by have := hB.size; simp; omega) ?_; intro v' w1 hown' hgrow _; obtain ⟨g', cap', rfl⟩ := ownsRow_succ hown'; obtain ⟨hv1, hv2, hr2, hk2, hb2⟩ := hv.appended (by decide) hrow hB.size (by omega) hown' hgrow; have hc1 := hv1.cell; have hf1 := hv1.frozen)
      exact ⟨hk2.from _, hb2, ⟨_, hv2, by rw [lostP_hit pre (by rfl), placeC_append]; simpa [placeC] using hr2, trivial⟩, hB.trans hb2⟩
    · have hk1 : (yv == 2) = false := by simpa using hk
      gi_wp2
      exact ⟨KeepsFrom.refl _ _, Below.refl _ _, ⟨v, hv, by rw [lostP_miss pre (by exact hk)]; exact hrow, trivial⟩, hB⟩
  case done =>
    rintro D ys W hD rfl ⟨⟨v, hv, hrow, -⟩, hB⟩ hK
    have hc := hv.cell
    gi_wp2
    refine ⟨by simp, .inl ⟨_, _, rfl, run_takeDeferred hK, ?_⟩⟩
    exact ⟨_, results_tmp rfl _ _ _, v, rfl, ownsRow_putObj hrow _ hK rfl, hB.trans (belowK_b (w := w) (Nat.le_refl _) W D _ _ (by omega) hK rfl rfl)⟩
  case stop =>
    rintro D c pre W _ _ h _
    exact h.elim

theorem klost_any (A0 A1 A2 : Option Addr) (n0 n1 n2 c0 c1 c2 B : Nat) (h : Hst) (w : World) (hg : LRow w B A2 h.l) (hn2 : h.l.length = n2) (hM : n2 ≤ 1000) (hno : ∀ t ∈ h.l, t.ops.length ≤ 1000) :
    Calls Tryd.prog 32 #[hval A0 A1 A2 n0 n1 n2 c0 c1 c2] w fun e W' => ∃ V, (e = .returned V ∧ W'.ownsRow w.heap.size 58 2 V (lostP (plsL h.l)).length (placeC (lostP (plsL h.l)))) ∧ Only [] w W' :=
  (callsIn_wide.1 (lost_in Fence.wide 6 trivial trivial trivial rfl (by omega) A0 A1 A2 n0 n1 n2 c0 c1 c2 h w hg.up hn2 hM hno)).mono fun e W' ⟨v, he, ho, hb⟩ => ⟨v, ⟨he, ho⟩, Only.of_below hb []⟩

end Go.Proofs.YtpkibfpnfpjclaaDoor
