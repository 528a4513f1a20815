/- The document's Thin. -/
import Derived.Test.YtlipapclbemjjaaDoorCloseThinCardK35
import Derived.Test.YtlipapclbemjjaaDoorCloseThinCardK40
import Derived.Test.YtlipapclbemjjaaDoorCloseThinCardK28
import Derived.Test.YtlipapclbemjjaaDoorCloseThinCardK41
set_option linter.unusedVariables false
set_option linter.unusedSimpArgs false
namespace Go.Proofs.YtlipapclbemjjaaDoor
open Go.RowKit
attribute [local go_sem ↓] Go.wp_at_zero Go.wp_at_succ
/-- Of the first k edges: those that no other way replaces. -/
def thinJ (n : Nat) (l G : List (Int × Int)) (k : Nat) : List (Int × Int) := (G.take k).filter fun e => !otherB n l e.1.toNat e.2.toNat
theorem thinJ_succ {n : Nat} {l G : List (Int × Int)} {k a b : Nat} (h : G[k]? = some ((a : Int), (b : Int))) : thinJ n l G (k + 1) = thinJ n l G k ++ (if otherB n l a b = true then [] else [((a : Int), (b : Int))]) := by
 unfold thinJ
 rw [List.take_add_one, h, List.filter_append]
 congr 1
 simp only [Option.toList_some, List.filter_cons, Int.toNat_natCast, List.filter_nil]
 rcases Bool.eq_false_or_eq_true (otherB n l a b) with h2 | h2 <;> simp [h2]
theorem thinJ_len (n : Nat) (l G : List (Int × Int)) (k : Nat) : (thinJ n l G k).length ≤ G.length := Nat.le_trans (List.length_filter_le _ _) (by rw [List.length_take]; omega)
theorem thinJ_all {n : Nat} {l : List (Int × Int)} (hr : roundB n l = false) : thinJ n l (redgesTo n l n) (redgesTo n l n).length = thinL n l := by
 unfold thinJ thinL
 rw [List.take_length, hr, if_neg (by decide)]
theorem nodup_le : ∀ (l k : List (Int × Int)), l.Nodup → (∀ x ∈ l, x ∈ k) → l.length ≤ k.length := by
 intro l
 induction l with
 | nil => intro k _ _; simp
 | cons x l ih =>
  intro k hd hs
  obtain ⟨h1, h2⟩ := List.nodup_cons.1 hd
  have hx : x ∈ k := hs x List.mem_cons_self
  have h3 := ih (k.erase x) h2 (fun y hy => (List.mem_erase_of_ne (fun (e : y = x) => h1 (by rw [← e]; exact hy))).2 (hs y (List.mem_cons_of_mem _ hy)))
  rw [List.length_erase_of_mem hx] at h3
  have := List.length_pos_of_mem hx
  rw [List.length_cons]
  omega
theorem redges_le {n : Nat} {l : List (Int × Int)} (w : WfE n l) : (redgesTo n l n).length ≤ l.length := nodup_le _ _ (nodup_redges n l) (fun e he => (mem_redges w).1 he)
theorem redges_mem {n : Nat} {h l : List (Int × Int)} (hs : ∀ e, e ∈ h ↔ e ∈ l) (k : Nat) : redgesTo n h k = redgesTo n l k := by
 unfold redgesTo rrowE nextL
 simp only [hs]
/-- What is known of the rest without the edge at k. -/
theorem rest_at {n : Nat} {l : List (Int × Int)} (wf : WfE n l) (hr : roundB n l = false) {k a b : Nat} (h : (redgesTo n l n)[k]? = some ((a : Int), (b : Int))) :
  WfE n ((redgesTo n l n).take k ++ (redgesTo n l n).drop (k + 1)) ∧ wayB n ((redgesTo n l n).take k ++ (redgesTo n l n).drop (k + 1)) a b = otherB n l a b ∧ a < n ∧ b < n := by
 have hm : ((a : Int), (b : Int)) ∈ l := (mem_redges wf).1 (List.mem_of_getElem? h)
 have hk : ∀ e, e ∈ (redgesTo n l n).take k ++ (redgesTo n l n).drop (k + 1) ↔ e ∈ l ∧ e ≠ ((a : Int), (b : Int)) := fun e => by rw [mem_but (nodup_redges n l) h, mem_redges wf]
 exact ⟨fun e he => wf e ((hk e).1 he).1, rest_way wf hr hm hk, (wf_lt wf hm).1, (wf_lt wf hm).2⟩
theorem edgeC_drop (h : List (Int × Int)) (k : Nat) : edgeC (h.drop k) = (edgeC h).drop (k * 2) := by
 induction h generalizing k with
 | nil => simp [edgeC]
 | cons e h ih =>
  cases k with
  | zero => simp [edgeC]
  | succ k =>
   have := ih k
   simp only [edgeC, List.drop_succ_cons, List.flatMap_cons, List.cons_append, List.nil_append] at this ⊢
   rw [show (k + 1) * 2 = k * 2 + 2 by omega, List.drop_succ_cons, List.drop_succ_cons, this]
theorem edgeC_one (h : List (Int × Int)) : ∀ u ∈ edgeC h, u.oneCell' = true := by
 intro u hu
 unfold edgeC at hu
 obtain ⟨e, -, he⟩ := List.mem_flatMap.1 hu
 simp at he
 rcases he with rfl | rfl <;> rfl
set_option maxRecDepth 10000 in
set_option maxHeartbeats 8000000 in
theorem rthin_any (n : Nat) (A : Option Addr) (m c : Nat) (l : List (Int × Int)) (w : World) (hr : Row w w.heap.size A (edgeC l)) (hl : l.length = m) (hm : m ≤ 1000) (hn : n ≤ 500) (hg : l.all (goodE n) = true) :
  Calls Tryd.prog 17 #[.int .i64 (n : Int), .slice A m c] w fun e w' => ∃ A' c', (e = .returned (.slice A' (thinL n l).length c') ∧ w'.ownsRow w.heap.size 47 2 (.slice A' (thinL n l).length c') (thinL n l).length (edgeC (thinL n l))) ∧ Only [] w w' := by
 obtain ⟨ie, hie, he0, he1, he2⟩ := info_parts info_edge
 have wf := wf_good hg
 have HOFF := Lib.hid (rof_any n A m c l w hr hl hm)
 have HRND := Lib.hid (fun (w1 : World) (O : Only [] w w1) => rround_any n A m c w.heap.size l w1 (hr.only O (by simp)) hl (by omega) hn wf)
 have HED := Lib.hid (fun (w1 : World) (fp : List Nat) (p : Nat) (hRG : RG w1 p n (l.foldl (rH n) []) fp) (hlen : (l.foldl (rH n) []).length ≤ 1000000) => by
  obtain ⟨A1, c1, h1, -, -⟩ := hRG
  have := redges_any p n A1 _ c1 (l.foldl (rH n) []) w1 (h1.blk.at_ 0) (h1.blk.at_ 1) rfl h1.read hlen hn
  rw [redges_mem (fun e => mem_rof hg e)] at this
  exact this)
 have HFL : Hid ((l.foldl (rH n) []).length ≤ 1000000) := Lib.hid (by
  have gen : ∀ (l h0 : List (Int × Int)), (l.foldl (rH n) h0).length ≤ h0.length + l.length := by
   intro l
   induction l with
   | nil => intro h0; simp
   | cons x l ih =>
    intro h0
    have h1 := ih (rH n h0 x)
    have h2 : (rH n h0 x).length ≤ h0.length + 1 := by
     unfold rH
     split
     ·simp
     ·omega
    rw [List.foldl_cons, List.length_cons]
    omega
  have := gen l []
  simp at this
  omega)
 have HWF := Lib.hid wf
 have HGE : Hid ((redgesTo n l n).length ≤ 1000) := Lib.hid (by have := redges_le wf; omega)
 clear hr hl hm hg wf
 go_enter Tryd.func17, Tryd.ntmps17
 go_wp2_with fail
 refine (HOFF.out).mono ?_
 rintro e w1 ⟨rfl, O1, fp, hRG, -⟩
 have HO1 := Lib.hid O1
 have HE1 := Lib.hid (HED.out w1 fp _ hRG HFL.out)
 clear HED HFL HOFF hRG O1
 go_wp2_with fail
 refine (HE1.out).mono ?_
 rintro e w2 ⟨v2, ⟨rfl, hv2⟩, O2⟩
 have HO2 := Lib.hid (HO1.out.trans O2)
 obtain ⟨A2, c2, rfl, -, -, -, -⟩ := own_row hv2
 have HG2 := Lib.hid (own_lower hv2 (HO1.out.size))
 have HRN := Lib.hid (HRND.out w2 HO2.out)
 have hgl := HGE.out
 clear HE1 O2 hv2 HRND HO1
 cases hrb : roundB n l with
 | true =>
  have HT : Hid (redgesTo n l n = thinL n l) := Lib.hid (by unfold thinL; rw [hrb, if_pos rfl])
  rw [HT.out] at HG2
  rw [HT.out]
  rw [hrb] at HRN
  clear hrb
  go_wp2_with fail
  refine (HRN.out).mono ?_
  rintro e w3 ⟨rfl, O3⟩
  have HO3 := Lib.hid (HO2.out.trans O3)
  have HG3 := Lib.hid (own_only HG2.out O3 (by simp))
  clear O3 HRN HG2 HO2
  go_wp2
  go_ret
  exact ⟨A2, c2, ⟨rfl, HG3.out⟩, HO3.out⟩
 | false =>
  have HT := Lib.hid (thinJ_all hrb)
  have HRA := Lib.hid (fun (k a b : Nat) (h : (redgesTo n l n)[k]? = some ((a : Int), (b : Int))) => rest_at HWF.out hrb h)
  have HMM : Hid (∀ k : Nat, k < (redgesTo n l n).length → ∃ a b : Nat, (redgesTo n l n)[k]? = some ((a : Int), (b : Int))) := Lib.hid (fun k hk => by
   obtain ⟨e, he⟩ : ∃ e, (redgesTo n l n)[k]? = some e := ⟨_, List.getElem?_eq_getElem hk⟩
   obtain ⟨a, b, rfl, -, -⟩ := HWF.out e ((mem_redges HWF.out).1 (List.mem_of_getElem? he))
   exact ⟨a, b, he⟩)
  have HJ := Lib.hid (fun (k a b : Nat) (h : (redgesTo n l n)[k]? = some ((a : Int), (b : Int))) => thinJ_succ (l := l) (n := n) h)
  have HL := Lib.hid (fun k => thinJ_len n l (redgesTo n l n) k)
  rw [hrb] at HRN
  clear hrb HWF HGE
  generalize redgesTo n l n = G at *
  generalize hlen : G.length = d at *
  have HGL := Lib.hid hlen
  clear hlen
  go_wp2_with fail
  refine (HRN.out).mono ?_
  rintro e w3 ⟨rfl, O3⟩
  have HO3 := Lib.hid (HO2.out.trans O3)
  have HG3 := Lib.hid (own_only HG2.out O3 (by simp))
  clear O3 HRN HG2 HO2
  have hdn : d ≤ 1000 := by omega
  go_wp2_with fail
  have HV0 : Hid ((w3.alloc (.cells #[] 47)).ownsRow w.heap.size 47 2 (.slice (some ⟨w3.heap.size, 0, none⟩) 0 0) (thinJ n l G 0).length (edgeC (thinJ n l G 0))) := Lib.hid (World.ownsRow_lit w3 (e := 47) (size := 2) #[] 0 HO3.out.size (by unfold maxLen; omega) rfl)
  have HG0 := Lib.hid (own_only HG3.out ((Only.refl [] w3).alloc (.cells #[] 47)) (by simp))
  have HO0 := Lib.hid (HO3.out.alloc (.cells #[] 47))
  have HAP : Hid (∀ g ∈ (Value.slice A2 d c2).ownBlock.toList, g ≠ w3.heap.size) := Lib.hid (fun g hg e => by have := own_lt HG3.out hg; omega)
  clear HG3 HO3
  go_loopw [6, 7] (fun V kv wr => ∃ k : Nat, kv = .int .i64 k ∧ k ≤ d ∧ Hid (wr.ownsRow w.heap.size 47 2 (.slice A2 d c2) d (edgeC G)) ∧ Hid (wr.ownsRow w.heap.size 47 2 V (thinJ n l G k).length (edgeC (thinJ n l G k))) ∧ Hid (∀ g ∈ (Value.slice A2 d c2).ownBlock.toList, g ∉ V.ownBlock.toList) ∧ Hid (Only [] w wr)) (fun _ kv _ => d - (intOf kv).toNat)
  case atStart => exact ⟨0, rfl, by omega, HG0, HV0, Lib.hid (fun g hg hm => HAP.out g hg (by simpa [Value.ownBlock] using hm)), HO0⟩
  case round =>
   obtain ⟨k, rfl, hk, hG, hV, hAP, hO⟩ := hrel
   clear HV0 HG0 HO0 HAP
   by_cases hlt : k < d
   ·obtain ⟨a, b, hab⟩ := HMM.out k hlt
    have HRK := Lib.hid (HRA.out k a b hab)
    have HJS := Lib.hid (HJ.out k a b hab)
    have hle := HL.out k
    have hRo := row_of_own hG.out
    obtain ⟨br, off, rfl, -, hbw, hcell⟩ := hRo.open_ (k := k * 2) (by rw [edgeC_len, HGL.out]; omega)
    have hge := edgeC_get G k _ hab
    have d0 := hcell _ _ hge.1
    have d1 := hcell _ _ hge.2
    rw [← Nat.add_assoc] at d1
    have h01 : (k : Int) < (d : Int) := by omega
    have hk0 : (0 : Int) ≤ (k : Int) := Int.natCast_nonneg _
    have hwk : IntKind.i64.wrap ((k : Int) + 1) = (k : Int) + 1 := IntWalk.i64_in _ (by omega)
    have hs1 := fun W => slice_to (some ⟨br, off, none⟩) d c2 k (by have := own_cap hG.out; omega) W
    have hs2 : ∀ W, (Instr.slice 22 (.slice (some ⟨br, off, none⟩) d c2) (some (.int .i64 ((k : Int) + 1))) none none).run Tryd.prog W = .ok (.slice (if c2 = k + 1 then some ⟨br, off, none⟩ else (some (⟨br, off, none⟩ : Addr)).map (·.add ((k + 1) * 2))) (d - (k + 1)) (c2 - (k + 1))) W := fun W => by
     rw [show ((k : Int) + 1) = ((k + 1 : Nat) : Int) by omega]
     exact slice_from _ d c2 (k + 1) (by omega) W
    have hr1 : Hid (Row wr wr.heap.size (some ⟨br, off, none⟩) (edgeC (G.take k))) := Lib.hid (by rw [edgeC_take]; exact hRo.take _)
    have hr2 := row_drop hG.out (k + 1) (by omega)
    rw [← edgeC_drop] at hr2
    have HR2 := Lib.hid hr2
    have hl1 : (edgeC (G.take k)).length = k * 2 := by rw [edgeC_len, List.length_take, HGL.out]; omega
    have hl2 : (edgeC (G.drop (k + 1))).length = (d - (k + 1)) * 2 := by rw [edgeC_len, List.length_drop, HGL.out]
    clear hr2 hRo hcell hge hab
    generalize (if c2 = k + 1 then some (⟨br, off, none⟩ : Addr) else (some (⟨br, off, none⟩ : Addr)).map (·.add ((k + 1) * 2))) = A3 at *
    generalize c2 - (k + 1) = c3 at *
    have hkd : k + (d - (k + 1)) ≤ 1000 := by omega
    go_upto_region 8 with (fail)
    refine wp_region_noPanic ?_
    refine wp_region_timed (F := [⟨[], [], fun w' => Only [] wr w'⟩]) (by kernel_rfl) (timed_holds ((Only.refl [] wr).drew) (timed_nil)) ?_
    refine timed_pure (i := 1) (v := ?_) rfl (by kernel_rfl) (by kernel_rfl) (by kernel_rfl) (fun _ _ _ h => h) (by kernel_rfl) (by kernel_rfl) ?_ ?_
    rotate_left
    ·(intro w; go_simp; try with_reducible rfl)
    try simp only [Act.put, tdy]
    refine timed_pure (i := 2) (v := ?_) rfl (by kernel_rfl) (by kernel_rfl) (by kernel_rfl) (fun _ _ _ h => h) (by kernel_rfl) (by kernel_rfl) ?_ ?_
    rotate_left
    ·(intro w; go_simp; try with_reducible rfl)
    try simp only [Act.put, tdy]
    refine timed_pure (i := 3) (v := ?_) rfl (by kernel_rfl) (by kernel_rfl) (by kernel_rfl) (fun _ _ _ h => h) (by kernel_rfl) (by kernel_rfl) ?_ ?_
    rotate_left
    ·(intro w; go_simp; try with_reducible rfl)
    try simp only [Act.put, tdy]
    refine timed_pure (i := 5) (v := ?_) rfl (by kernel_rfl) (by kernel_rfl) (by kernel_rfl) (fun _ _ _ h => h) (by kernel_rfl) (by kernel_rfl) ?_ ?_
    rotate_left
    ·(intro w; go_simp; try with_reducible rfl)
    try simp only [Act.put, tdy]
    refine timed_pure (i := 6) (v := ?_) rfl (by kernel_rfl) (by kernel_rfl) (by kernel_rfl) (fun _ _ _ h => h) (by kernel_rfl) (by kernel_rfl) ?_ ?_
    rotate_left
    ·(intro w; go_simp; try with_reducible rfl)
    try simp only [Act.put, tdy]
    refine timed_pure (i := 7) (v := ?_) rfl (by kernel_rfl) (by kernel_rfl) (by kernel_rfl) (fun _ _ _ h => h) (by kernel_rfl) (by kernel_rfl) ?_ ?_
    rotate_left
    ·(intro w; go_simp; try with_reducible rfl)
    try simp only [Act.put, tdy]
    refine timed_pure (i := 8) (v := ?_) rfl (by kernel_rfl) (by kernel_rfl) (by kernel_rfl) (fun _ _ _ h => h) (by kernel_rfl) (by kernel_rfl) ?_ ?_
    rotate_left
    ·(intro w; go_simp; try with_reducible rfl)
    try simp only [Act.put, tdy]
    refine timed_step (i := 0) (by kernel_rfl) rfl (fun K hK => ?_)
    go_simp
    have OW0 : Only [] wr ((wr.alloc (.cells #[] 47)).drew) := ((Only.refl [] wr).alloc _).drew
    have OV0 : ((wr.alloc (.cells #[] 47)).drew).ownsRow wr.heap.size 47 2 (.slice (some ⟨wr.heap.size, 0, none⟩) 0 0) 0 [] := own_only (World.ownsRow_lit wr (e := 47) (size := 2) #[] 0 (by omega) (by unfold maxLen; omega) rfl) ((Only.refl [] _).drew) (by simp)
    refine hK.out _ _ (timed_holds (OW0) (timed_nil)) ?_
    clear hK K
    try simp only [Act.put, tdy]
    refine timed_step (i := 4) (by kernel_rfl) rfl (fun K hK => ?_)
    refine step_append_row _ rfl (.tmp 24) (.tmp 27) 22 rfl wr.heap.size 47 ie _ 2 16 Tryd.underlying22 hie he0 he1 he2 rfl (by omega) _ 0 ([]) (by rfl) OV0 _ _ (k) (c2) (edgeC (G.take k)) (by rfl) (hl1) ((hr1.out).only OW0 (by simp)) (edgeC_one _) (by unfold maxLen; omega) (by omega) OW0.size ?_
    intro v9_0 w9_0 OV9_0 hgrow9_0 hat9_0
    rw [Nat.zero_add, List.nil_append] at OV9_0
    obtain ⟨A9_0, c9_0, e9_0, -, -, -, -⟩ := own_row OV9_0
    subst e9_0
    have OW9_0 : Only [] wr w9_0 := OW0.step (only_grown hgrow9_0) (fun i hi hl => by have := (OV0.lt i (by simpa using hi)).1; omega)
    refine hK.out _ _ (timed_holds (OW9_0) (timed_nil)) ?_
    clear hK K
    try simp only [Act.put, tdy]
    refine timed_step (i := 9) (by kernel_rfl) rfl (fun K hK => ?_)
    refine step_append_row _ rfl (.tmp 28) (.tmp 32) 22 rfl wr.heap.size 47 ie _ 2 16 Tryd.underlying22 hie he0 he1 he2 rfl (by omega) _ k (edgeC (G.take k)) (by rfl) OV9_0 _ _ (d - (k + 1)) (c3) (edgeC (G.drop (k + 1))) (by rfl) (hl2) ((HR2.out).only OW9_0 (by simp)) (edgeC_one _) (by unfold maxLen; omega) (by omega) OW9_0.size ?_
    intro v9 w9 OV9 hgrow9 hat9
    obtain ⟨A9, c9, e9, -, -, -, -⟩ := own_row OV9
    subst e9
    have OW9 : Only [] wr w9 := OW9_0.step (only_grown hgrow9) (fun i hi hl => by have := (OV9_0.lt i (by simpa using hi)).1; omega)
    refine hK.out _ _ (timed_holds (OW9) (timed_nil)) ?_
    clear hK K
    try simp only [Act.put, tdy]
    refine timed_pure (i := 10) (v := ?_) rfl (by kernel_rfl) (by kernel_rfl) (by kernel_rfl) (fun _ _ _ h => h) (by kernel_rfl) (by kernel_rfl) ?_ ?_
    rotate_left
    ·(intro w; go_simp; try with_reducible rfl)
    try simp only [Act.put, tdy]
    refine timed_done (by kernel_rfl) ?_ _
    refine NoPanic.normal ?_
    have HW9 := Lib.hid OW9
    have HV9 := Lib.hid OV9
    clear OW0 OV0 OV9_0 OW9_0 hgrow9_0 hat9_0 OV9 OW9 hgrow9 hat9
    have HRW := Lib.hid (row_of_own HV9.out)
    rw [← edgeC_append] at HRW
    have HRL : Hid ((G.take k ++ G.drop (k + 1)).length = k + (d - (k + 1))) := Lib.hid (by rw [List.length_append, List.length_take, List.length_drop, HGL.out]; omega)
    have HRF := Lib.hid (fun (W : World) (O : Only [] w9 W) => rfrom_any n a A9 (k + (d - (k + 1))) c9 w9.heap.size (G.take k ++ G.drop (k + 1)) W (HRW.out.only O (by simp)) HRL.out (by omega) hn HRK.out.1)
    have HEQ : Hid (decide ((b : Int) ∈ reachL n (G.take k ++ G.drop (k + 1)) a) = otherB n l a b) := Lib.hid (by rw [reach_self HRK.out.2.2.2, HRK.out.2.1])
    have hq := reach_len n (G.take k ++ G.drop (k + 1)) a
    have HD0 := Lib.hid ((HW9.out.cell (p := ⟨br, off + k * 2, none⟩) hbw (by simp)).trans d0)
    have HD1 := Lib.hid ((HW9.out.cell (p := ⟨br, off + k * 2 + 1, none⟩) hbw (by simp)).trans d1)
    have hb9 : br < w9.heap.size := Nat.lt_of_lt_of_le hbw HW9.out.size
    generalize reachL n (G.take k ++ G.drop (k + 1)) a = X at *
    clear d0 d1 hs1 hs2 hr1 HR2 hl1 hl2 HV9 HRW HRL HRK
    generalize k + (d - (k + 1)) = mr at *
    obtain ⟨ob, hob⟩ : ∃ ob, ob = otherB n l a b := ⟨_, rfl⟩
    rw [← hob] at HEQ HJS
    clear hob
    go_upto_region 9 with (fail)
    refine wp_region_noPanic ?_
    refine wp_region_timed (F := [⟨[], [], fun w' => Only [] w9 w'⟩]) (by kernel_rfl) (timed_holds ((Only.refl [] w9).drew) (timed_nil)) ?_
    refine timed_pure (i := 0) (v := ?_) rfl (by kernel_rfl) (by kernel_rfl) (by kernel_rfl) (fun _ _ _ h => h) (by kernel_rfl) (by kernel_rfl) ?_ ?_
    rotate_left
    ·(intro w; go_simp; try with_reducible rfl)
    try simp only [Act.put, tdy]
    refine timed_pure (i := 1) (v := ?_) rfl (by kernel_rfl) (by kernel_rfl) (by kernel_rfl) (fun _ _ _ h => h) (by kernel_rfl) (by kernel_rfl) ?_ ?_
    rotate_left
    ·(intro w; go_simp; try with_reducible rfl)
    try simp only [Act.put, tdy]
    refine timed_pure (i := 2) (v := ?_) rfl (by kernel_rfl) (by kernel_rfl) (by kernel_rfl) (fun _ _ _ h => h) (by kernel_rfl) (by kernel_rfl) ?_ ?_
    rotate_left
    ·(intro w; go_simp; try with_reducible rfl)
    try simp only [Act.put, tdy]
    refine timed_pure (i := 3) (v := ?_) rfl (by kernel_rfl) (by kernel_rfl) (by kernel_rfl) (fun _ _ _ h => h) (by kernel_rfl) (by kernel_rfl) ?_ ?_
    rotate_left
    ·(intro w; go_simp; try with_reducible rfl)
    try simp only [Act.put, tdy]
    refine timed_pure (i := 4) (v := ?_) rfl (by kernel_rfl) (by kernel_rfl) (by kernel_rfl) (fun _ _ _ h => h) (by kernel_rfl) (by kernel_rfl) ?_ ?_
    rotate_left
    ·(intro w; go_simp; try with_reducible rfl)
    try simp only [Act.put, tdy]
    refine timed_pure (i := 5) (v := ?_) rfl (by kernel_rfl) (by kernel_rfl) (by kernel_rfl) (fun _ _ _ h => h) (by kernel_rfl) (by kernel_rfl) ?_ ?_
    rotate_left
    ·(intro w; go_simp; try with_reducible rfl)
    try simp only [Act.put, tdy]
    refine timed_read (i := 6) (v := ?_) 0 rfl (by kernel_rfl) (by kernel_rfl) (by kernel_rfl) (fun _ _ _ h => h) (by kernel_rfl) (by kernel_rfl) rfl (by kernel_rfl) ?_ ?_
    rotate_left
    ·(intro wq hSw; (try dsimp only at hSw); have e0 := (hSw.cell (p := ⟨br, off + k * 2, none⟩) hb9 (by simp)).trans HD0.out; have e1 := (hSw.cell (p := ⟨br, off + k * 2 + 1, none⟩) hb9 (by simp)).trans HD1.out; dsimp only at e0 e1; clear hSw; go_simp; try with_reducible rfl)
    try simp only [Act.put, tdy]
    refine timed_pure (i := 8) (v := ?_) rfl (by kernel_rfl) (by kernel_rfl) (by kernel_rfl) (fun _ _ _ h => h) (by kernel_rfl) (by kernel_rfl) ?_ ?_
    rotate_left
    ·(intro w; go_simp; try with_reducible rfl)
    try simp only [Act.put, tdy]
    refine timed_pure (i := 9) (v := ?_) rfl (by kernel_rfl) (by kernel_rfl) (by kernel_rfl) (fun _ _ _ h => h) (by kernel_rfl) (by kernel_rfl) ?_ ?_
    rotate_left
    ·(intro w; go_simp; try with_reducible rfl)
    try simp only [Act.put, tdy]
    refine timed_pure (i := 10) (v := ?_) rfl (by kernel_rfl) (by kernel_rfl) (by kernel_rfl) (fun _ _ _ h => h) (by kernel_rfl) (by kernel_rfl) ?_ ?_
    rotate_left
    ·(intro w; go_simp; try with_reducible rfl)
    try simp only [Act.put, tdy]
    refine timed_pure (i := 11) (v := ?_) rfl (by kernel_rfl) (by kernel_rfl) (by kernel_rfl) (fun _ _ _ h => h) (by kernel_rfl) (by kernel_rfl) ?_ ?_
    rotate_left
    ·(intro w; go_simp; try with_reducible rfl)
    try simp only [Act.put, tdy]
    refine timed_read (i := 12) (v := ?_) 0 rfl (by kernel_rfl) (by kernel_rfl) (by kernel_rfl) (fun _ _ _ h => h) (by kernel_rfl) (by kernel_rfl) rfl (by kernel_rfl) ?_ ?_
    rotate_left
    ·(intro wq hSw; (try dsimp only at hSw); have e0 := (hSw.cell (p := ⟨br, off + k * 2, none⟩) hb9 (by simp)).trans HD0.out; have e1 := (hSw.cell (p := ⟨br, off + k * 2 + 1, none⟩) hb9 (by simp)).trans HD1.out; dsimp only at e0 e1; clear hSw; go_simp; try with_reducible rfl)
    try simp only [Act.put, tdy]
    refine timed_step (i := 7) (by kernel_rfl) rfl (fun K hK => ?_)
    go_simp
    refine (HRF.out _ (Only.refl [] w9).drew).mono ?_
    rintro e wF ⟨AF, cF, ⟨rfl, hX⟩, OF⟩
    have HXF := Lib.hid (row_of_own hX)
    clear hX
    refine hK.out _ _ (timed_holds (((Only.refl [] w9).drew).trans OF) (timed_nil)) ?_
    clear hK K
    try simp only [Act.put, tdy]
    refine timed_step (i := 13) (by kernel_rfl) rfl (fun K hK => ?_)
    go_simp
    refine (hasInt_any AF X.length cF _ X (b : Int) _ rfl (by omega) HXF.out).mono ?_
    rintro e wG ⟨rfl, rfl⟩
    rw [HEQ.out]
    refine hK.out _ _ (timed_holds (((Only.refl [] w9).drew).trans OF) (timed_nil)) ?_
    clear hK K
    try simp only [Act.put, tdy]
    refine timed_pure (i := 14) (v := ?_) rfl (by kernel_rfl) (by kernel_rfl) (by kernel_rfl) (fun _ _ _ h => h) (by kernel_rfl) (by kernel_rfl) ?_ ?_
    rotate_left
    ·(intro w; go_simp; try with_reducible rfl)
    try simp only [Act.put, tdy]
    refine timed_done (by kernel_rfl) ?_ _
    refine NoPanic.normal ?_
    have HNX := Lib.hid ( (((Only.refl [] w9).drew).trans OF))
    have HGF := Lib.hid (own_only hG.out (HW9.out.trans HNX.out) (by simp))
    have HVF := Lib.hid (own_only hV.out (HW9.out.trans HNX.out) (by simp))
    have HOF := Lib.hid (hO.out.trans (HW9.out.trans HNX.out))
    have e0 := (HNX.out.cell (p := ⟨br, off + k * 2, none⟩) hb9 (by simp)).trans HD0.out
    have e1 := (HNX.out.cell (p := ⟨br, off + k * 2 + 1, none⟩) hb9 (by simp)).trans HD1.out
    have hbF := Nat.lt_of_lt_of_le hb9 HNX.out.size
    dsimp only at e0 e1
    clear HNX HW9 HD0 HD1 HRF HXF OF HEQ hG hV hO
    cases ob with
    | true =>
     have HVR : Hid (wF.ownsRow w.heap.size 47 2 _ (thinJ n l G (k + 1)).length (edgeC (thinJ n l G (k + 1)))) := Lib.hid (by
      rw [HJS.out, if_pos rfl, List.append_nil]
      exact HVF.out)
     go_wp2
     go_roundw
     case rel => first | exact ⟨k + 1, by go_num, by omega, HGF, HVR, hAP, HOF⟩ | exact ⟨_, ⟨k + 1, by go_num, by omega, HGF, HVR, hAP, HOF⟩, rfl⟩
     case measure => simp [intOf]; omega
    | false =>
     have hsF := HOF.out.size
     obtain ⟨M, hM⟩ : ∃ M, M = (thinJ n l G k).length := ⟨_, rfl⟩
     rw [← hM] at HVF hle
     have HM := Lib.hid hM
     clear hM
     go_wp2_with (
      at_builtin
      refine wpList_append_row _ rfl (.tmp 49) (.tmp 54) 22 rfl w.heap.size 47 ie _ 2 16 Tryd.underlying22 hie he0 he1 he2 rfl (by omega) _ M (edgeC (thinJ n l G k)) (by rfl) (own_only HVF.out ((Only.refl [] wF).alloc (.cells #[.int .i64 (a : Int), .int .i64 (b : Int)] 47)) (fun _ _ => by simp)) _ _ 1 1 [.int .i64 (a : Int), .int .i64 (b : Int)] (by rfl) (by rfl) (row_lit _ _ _) (by intro u hu; simp at hu; rcases hu with rfl | rfl <;> rfl) (by unfold maxLen; omega) (by omega) (by simp; omega) ?_
      intro v' w3 hown hgrow hat
      have OA := (Only.refl [] wF).alloc (.cells #[.int .i64 (a : Int), .int .i64 (b : Int)] 47)
      have OV := only_grown hgrow
      have HOWN := Lib.hid hown
      have HO3 := Lib.hid ((HOF.out.trans OA).step OV (fun i hi hl => by have := ((own_only HVF.out OA (by simp)).lt i (by simpa using hi)).1; omega))
      have HG3 := Lib.hid (own_only (own_only HGF.out OA (by simp)) OV (fun g hg hm => hAP.out g (by rw [hg]; simp) hm))
      have HAP3 := Lib.hid (fun g (hg : g ∈ (Value.slice (some ⟨br, off, none⟩) d c2).ownBlock.toList) (hm : g ∈ v'.ownBlock.toList) => by
       rcases hat with h | h
       ·exact hAP.out g hg (by rw [← h]; exact hm)
       ·have h2 := own_lt HGF.out hg
        rw [h] at hm
        simp at hm
        omega)
      clear hown)
     go_roundw
     case rel =>
      have HVR : Hid (w3.ownsRow w.heap.size 47 2 v' (thinJ n l G (k + 1)).length (edgeC (thinJ n l G (k + 1)))) := Lib.hid (by
       rw [HJS.out, if_neg (by decide), List.length_append, edgeC_append, ← HM.out]
       exact HOWN.out)
      first | exact ⟨k + 1, by go_num, by omega, HG3, HVR, HAP3, HO3⟩ | exact ⟨_, ⟨k + 1, by go_num, by omega, HG3, HVR, HAP3, HO3⟩, rfl⟩
     case measure => simp [intOf]; omega
   ·have hkd : k = d := by omega
    subst hkd
    have hd : decide ((k : Int) < (k : Int)) = false := by simp
    rw [HT.out] at hV
    obtain ⟨A', c', hV', -, -, -, -⟩ := own_row hV.out
    subst hV'
    go_wp2
    go_ret
    exact ⟨A', c', ⟨rfl, hV.out⟩, hO.out⟩
end Go.Proofs.YtlipapclbemjjaaDoor
