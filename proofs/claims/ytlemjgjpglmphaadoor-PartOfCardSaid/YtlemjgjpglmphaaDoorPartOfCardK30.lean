/- Parts. -/
import Derived.Test.YtlemjgjpglmphaaDoorPartOfCardK27
import Derived.Test.YtlemjgjpglmphaaDoorPartOfCardK29
import Derived.Deep.CutBlock
import Derived.Deep.DeepCutAuto
set_option maxRecDepth 10000
set_option maxHeartbeats 16000000
set_option linter.unusedVariables false
set_option linter.unusedSimpArgs false
namespace Go.Proofs.YtlemjgjpglmphaaDoor
open Go.RowKit
attribute [local go_sem ↓] Go.wp_at_zero Go.wp_at_succ
theorem fslice_tail (b off t c : Nat) (h : 1 ≤ t) (hc : t ≤ c) (W : World) : (Instr.slice 29 (.slice (some ⟨b, off, none⟩) t c) (some (.int .i64 1)) none none).run Tryd.prog W = .ok (.slice (some ⟨b, if c = 1 then off else off + 1, none⟩) (t - 1) (c - 1)) W := by
 rw [run_slice_l (P := Tryd.prog) W 29 (some ⟨b, off, none⟩) t c (by kernel_rfl) .i64 (1 : Int) (by omega) (by omega)];have hs : (sizeOf (Tryd.prog.elem 29)).run Tryd.prog W = .ok 1 W := by kernel_rfl
 rw [hs]
 by_cases hc1 : c = 1 <;> simp [Result.andThen, sliced, hc1, Addr.add]
theorem fslice_pop (b t c : Nat) (h : t ≤ c) (W : World) : (Instr.slice 70 (.slice (some ⟨b, 0, none⟩) (t + 1) c) none (some (.int .i64 (t : Int))) none).run Tryd.prog W = .ok (.slice (some ⟨b, 0, none⟩) t c) W := by
 rw [run_slice_h (P := Tryd.prog) W 70 (some ⟨b, 0, none⟩) (t + 1) c (by kernel_rfl) .i64 (t : Int) (by omega) (by omega)];have hs : (sizeOf (Tryd.prog.elem 70)).run Tryd.prog W = .ok 2 W := by kernel_rfl
 rw [hs]
 by_cases hc0 : c = 0 <;> simp [Result.andThen, sliced, Addr.add, hc0]
theorem info_step : (Tryd.prog.info? 69).map (fun i => (i.zero, i.size, i.bytes)) = some (some (.agg #[.int .i64 0, .slice none 0 0]), 2, 32) := by kernel_rfl
theorem from_any (n p r b : Nat) (k : FuncId) (hk : k = 28 ∨ k = 31) (N : Nat → List Nat) (E : Nat → Nat → Prop) (D : List Nat) (K : List Int) (w : World) (hn : n ≤ 500)
  (hr : r < n) (hrD : r ∉ D) (hD : Dfs E D []) (hDn : ∀ d ∈ D, d < n) (hN : ∀ i, i < n → ∀ z ∈ N i, z < n) (hl : ∀ i, i < n → (N i).length ≤ n) (hE : ∀ i, i < n → ∀ m : Nat, E i m ↔ m ∈ N i)
  (hB : Blk w b 4 (markC n K)) (hKD : ∀ x : Nat, (x : Int) ∈ K ↔ x ∈ D)
  (hcall : ∀ (i : Nat) w', i < n → Only [b] w w' → Calls Tryd.prog k #[.pointer (some ⟨p, 0, none⟩), .int .i64 (i : Int)] w' fun e w'' => ∃ v, (e = .returned v ∧ w''.ownsRow w'.heap.size 3 1 v (N i).length (intsN (N i))) ∧ Only [] w' w'') :
  Calls Tryd.prog 30 #[.int .i64 (r : Int), .func (.func k) #[.pointer (some ⟨p, 0, none⟩)] #[], .slice (some ⟨b, 0, none⟩) n n] w fun e w' => ∃ L A c K', (e = .returned (.slice A L.length c) ∧ w'.ownsRow w.heap.size 3 1 (.slice A L.length c) L.length (intsN L) ∧ Gone E D r L ∧ (∀ x ∈ L, x < n) ∧ Blk w' b 4 (markC n K') ∧ ∀ x : Nat, (x : Int) ∈ K' ↔ x ∈ D ++ L) ∧ Only [b] w w' := by
 obtain ⟨i0, hi, hz0, hz1, hz2⟩ := info_parts info_int;obtain ⟨is, his, hq0, hq1, hq2⟩ := info_parts info_step;have HC := Hd hcall;have HNN := Hd hN;have HNL := Hd hl;have HE := Hd hE;have HD := Hd hD;have HDN := Hd hDn;have HB := Hd hB;have HKD := Hd hKD;have HRD := Hd hrD;have hbl := hB.lt;clear hcall hN hl hE hD hDn hB hKD hrD;have hr0 : (0 : Int) ≤ (r : Int) := Int.natCast_nonneg _;rcases hk with hk | hk
 all_goals
  subst hk;go_enter Tryd.func30, Tryd.ntmps30;have y0 := (HB.out.at_ r).trans (markC_at n K r hr);have yf := HB.out.free r;go_wp2_with fail
  have O1 : Only [b] w (w.setCell ⟨b, r, none⟩ (.bool true)) := (Only.refl [b] w).put (p := ⟨b, r, none⟩) (fun _ => by simp) _;have HO1 := Hd O1;have HB1 : Hid (Blk (w.setCell ⟨b, r, none⟩ (.bool true)) b 4 (markC n (K ++ [(r : Int)]))) := Hd (by rw [markC_snoc n K r hr]; exact HB.out.put r _);clear O1 y0 yf;generalize (w.setCell ⟨b, r, none⟩ (.bool true)) = w1 at *;have HCR := Hd (HC.out r w1 hr HO1.out);go_wp2_with fail
  refine (HCR.out).mono ?_;rintro e w2 ⟨v, ⟨rfl, hv⟩, O2⟩;obtain ⟨A2, c2, rfl, -, -, -, -⟩ := own_row hv;have hs1 := HO1.out.size;have HO2 := Hd (HO1.out.step O2 (by simp));have HB2 := Hd (O2.blk HB1.out (by simp));have HV2 := Hd (own_lower hv hs1);clear hv O2 HCR HB1 HB;have HX := Hd (own_lit2 w2 w.heap.size 69 HO2.out.size (.int .i64 (r : Int)) (.slice A2 (N r).length c2));have OA := (Only.refl [] w2).alloc (.cells #[.int .i64 (r : Int), .slice A2 (N r).length c2] 69);have HO3 := Hd (HO2.out.step OA (by simp));have HB3 := Hd (OA.blk HB2.out (by simp));have HR3 := Hd (RestOk.new (dv := .slice none 0 0) (x := r) (p := D.length) (own_only HV2.out OA (by simp)) (by simp [Value.ownBlock]));have HK3 := Hd (FromK.start (A := A2) (c := c2) HD.out hr HRD.out (HE.out r hr) (HNL.out r hr) (HNN.out r hr) HKD.out);clear OA HO2 HB2 HV2;go_wp2_with fail
  generalize (w2.alloc (.cells #[.int .i64 (r : Int), .slice A2 (N r).length c2] 69)) = w3 at *;generalize w2.heap.size = g0 at *
  go_loopw [7, 8] (fun sv dv wr => ∃ (S : List PF) (L : List Nat) (g c : Nat) (A : Option Addr) (cd : Nat) (K' : List Int), sv = .slice (some ⟨g, 0, none⟩) S.length c ∧ dv = .slice A L.length cd ∧ Hid (wr.ownsRow w.heap.size 69 2 (.slice (some ⟨g, 0, none⟩) S.length c) S.length (stkC S)) ∧ Hid (wr.ownsRow w.heap.size 3 1 (.slice A L.length cd) L.length (intsN L)) ∧ Hid (∀ f ∈ S, RestOk wr (.slice A L.length cd) f) ∧ Hid (FromK E n r D L S K') ∧ Hid (Blk wr b 4 (markC n K')) ∧ Hid (Only [b] w wr)) (fun sv _ wr => (n + 2) * leftM wr b n + lookS wr sv)
  case atStart => exact ⟨[⟨r, N r, A2, c2, D.length⟩], [], g0, 1, none, 0, _, rfl, rfl, HX, Hd (World.ownsRow_nil _ _ _ _), Hd (fun f hf => by rw [List.mem_singleton.1 hf]; exact HR3.out), HK3, HB3, HO3⟩
  case round =>
   obtain ⟨S, L, g, c, A, cd, K', rfl, rfl, hS, hL, hR, hK, hB, hO⟩ := hrel;clear HX HR3 HK3 HB3 HO3;have HLS := Hd (lookS_of hS.out);have HLM := Hd (leftM_mark hB.out);have hln := hK.out.len HDN.out
   cases S with
   | nil =>
    have HG := Hd (hK.out.end_ HD.out);have HMK := Hd hK.out.marks;have HLN := Hd (fun x hx => (hK.out.ln x hx).1);clear HLS HLM hK hR hS;go_wp2
    go_ret
    exact ⟨L, A, cd, K', ⟨rfl, hL.out, HG.out, HLN.out, hB.out, HMK.out⟩, hO.out⟩
   | cons f S =>
    obtain ⟨x, l, Af, cf, pf⟩ := f;simp only [List.length_cons] at hln;obtain ⟨t, ht⟩ : ∃ t, t = S.length := ⟨_, rfl⟩;have e0 := (own_cell hS.out rfl (stkC_node ⟨x, l, Af, cf, pf⟩ S)).1;have e1 := (own_cell hS.out rfl (stkC_rest ⟨x, l, Af, cf, pf⟩ S)).1;have e2 := (own_cell hS.out rfl (stkC_rest ⟨x, l, Af, cf, pf⟩ S)).2;have hgl : g < wr.heap.size := own_lt hS.out (by simp [Value.ownBlock]);rw [← ht] at hln e0 e1 e2;simp only [List.length_cons, ← ht] at hS HLS ⊢;have HT := Hd ht;clear ht;have ht1 : ((t + 1 : Nat) : Int) - 1 = (t : Int) := by omega
    have ht2 : IntKind.i64.wrap (t : Int) = (t : Int) := IntWalk.i64_in _ (by omega);have ht3 : (0 : Int) < ((t + 1 : Nat) : Int) := by omega
    have htc := own_cap hS.out;have hwg := hO.out.size;have hgb : g ≠ b := fun e => by have := (hS.out.lt g (by simp [Value.ownBlock])).1; omega
    have hgb2 : b ≠ g := fun e => hgb e.symm
    cases l with
    | nil =>
     have hsl := fun W => fslice_pop g t c (by omega) W;have HKP := Hd hK.out.pop;have HSP : Hid (wr.ownsRow w.heap.size 69 2 (.slice (some ⟨g, 0, none⟩) t c) t (stkC S)) := Hd (ownsRow_pop (by rw [stkC_len, HT.out]) hS.out);clear hK;go_wp2_with (
      at_builtin
      refine wpList_append_row _ rfl (.tmp 34) (.tmp 39) 29 rfl w.heap.size 3 i0 _ 1 8 Tryd.underlying29 hi hz0 hz1 hz2 rfl (by omega) _ L.length (intsN L) (by rfl) (own_only hL.out ((Only.refl [] wr).alloc (.cells #[.int .i64 (x : Int)] 3)) (fun _ _ => by simp)) _ _ 1 1 [.int .i64 (x : Int)] (by rfl) (by rfl) (row_lit _ _ _) (by intro u hu; simp at hu; rcases hu with rfl; rfl) (by unfold maxLen; omega) (by omega) (by simp; omega) ?_;intro v' w3 hown hgrow hat;have OA := (Only.refl [] wr).alloc (.cells #[.int .i64 (x : Int)] 3);have OV := only_grown hgrow;obtain ⟨A3, cd3, rfl, -, -, -, -⟩ := own_row hown;have HOWN : Hid (w3.ownsRow w.heap.size 3 1 (.slice A3 (L.length + 1) cd3) (L.length + 1) (intsN (L ++ [x]))) := Hd (by rw [intsN_app]; exact hown);have HO3 := Hd ((hO.out.step OA (by simp)).step OV (fun i hi hl => by have := ((own_only hL.out OA (by simp)).lt i (by simpa using hi)).1; omega));have HS3 := Hd (own_only (own_only HSP.out OA (by simp)) OV (fun g hg hm => own_own (own_only HSP.out OA (by simp)) (own_only hL.out OA (by simp)) (by decide) g hg hm));have HB3 := Hd (OV.blk (OA.blk hB.out (by simp)) (own_apart (own_only hL.out OA (by simp)) (OA.blk hB.out (by simp)) (by decide)));have HR3 := Hd (fun f (hf : f ∈ S) => ((hR.out f (List.mem_cons_of_mem _ hf)).same OA).grow OV hat);clear hown hgrow hat OA OV HSP)
     have HLS3 := Hd (lookS_of (g := g) (c := c) (S := S) (by rw [← HT.out]; exact HS3.out));have HLM3 := Hd (leftM_mark HB3.out);go_roundw
     case rel =>
      have hh : t = S.length := HT.out
      first | exact ⟨S, L ++ [x], g, c, A3, cd3, K', by rw [hh], by simp, by rw [← hh]; exact HS3, by simpa using HOWN, by simpa using HR3, HKP, HB3, HO3⟩ | exact ⟨_, _, ⟨S, L ++ [x], g, c, A3, cd3, K', by rw [hh], by simp, by rw [← hh]; exact HS3, by simpa using HOWN, by simpa using HR3, HKP, HB3, HO3⟩, rfl, rfl⟩
     case measure =>
      have h1 := HLS3.out;rw [← HT.out] at h1;rw [HLM3.out, HLM.out, h1, HLS.out];simp [sumS]
    | cons y l =>
     obtain ⟨b2, off, rfl, hq, hbd⟩ := hR.out _ List.mem_cons_self (by simp);dsimp only at hq;obtain ⟨u, hu⟩ : ∃ u, u = l.length := ⟨_, rfl⟩;have hqc : u + 1 ≤ cf := by have := hq.le; rw [intsN_len, List.length_cons] at this; omega
     have c0 := hq.cell (j := 0) (u := .int .i64 (y : Int)) rfl;rw [Nat.add_zero] at c0;have hbl2 := hq.lt;have HRT := Hd (RestOk.tail (x := x) (p := pf) hq hbd);obtain ⟨off2, hoff⟩ : ∃ o, o = if cf = 1 then off else off + 1 := ⟨_, rfl⟩
     obtain ⟨c3, hc3⟩ : ∃ o, o = cf - 1 := ⟨_, rfl⟩;rw [← hoff, ← hc3] at HRT;have hsl : ∀ W, (Instr.slice 29 (.slice (some ⟨b2, off, none⟩) (u + 1) cf) (some (.int .i64 1)) none none).run Tryd.prog W = .ok (.slice (some ⟨b2, off2, none⟩) u c3) W := fun W => by
      have := fslice_tail b2 off (u + 1) cf (by omega) hqc W;rw [← hoff, ← hc3, Nat.add_sub_cancel] at this;exact this
     have hyn : y < n := (hK.out.sn _ List.mem_cons_self).2.2.2 y List.mem_cons_self;have HQ := Hd hq;simp only [List.length_cons, ← hu] at e1;have HU := Hd hu;clear hoff hc3 hu hq;have hy0 : (0 : Int) ≤ (y : Int) := Int.natCast_nonneg _;have hu0 : ¬ ((u : Int) + 1 = 0) := by omega
     have hu1 : (0 : Int) < (u : Int) + 1 := by omega
     have hu2 : decide ((u : Int) + 1 = 0) = false := by simp; omega
     have e4 := (hB.out.at_ y).trans (markC_at n K' y hyn);have e5 := hB.out.free y;have hbw : b < wr.heap.size := by omega
     have HSN : Hid ((wr.setCell ⟨g, t * 2 + 1, none⟩ (.slice (some ⟨b2, off2, none⟩) u c3)).ownsRow w.heap.size 69 2 (.slice (some ⟨g, 0, none⟩) (t + 1) c) (t + 1) (stkC (⟨x, l, some ⟨b2, off2, none⟩, c3, pf⟩ :: S))) := Hd (by
      have := own_set hS.out rfl (j := t * 2 + 1) (by rw [stkC_len, List.length_cons, ← HT.out]; omega) (.slice (some ⟨b2, off2, none⟩) u c3);rw [HU.out, show t * 2 + 1 = S.length * 2 + 1 by rw [HT.out], stkC_set] at this;rw [HU.out, HT.out];rw [HT.out] at this;exact this)
     have OG : Only [g] wr (wr.setCell ⟨g, t * 2 + 1, none⟩ (.slice (some ⟨b2, off2, none⟩) u c3)) := (Only.refl [g] wr).put (p := ⟨g, t * 2 + 1, none⟩) (fun _ => by simp) _;obtain ⟨curS, hbS⟩ := own_blk hS.out (g := g) rfl;have HL4 := Hd (own_only hL.out OG (fun g' hg' hm => own_apart hL.out hbS (by decide) (by simp at hm; rw [← hm, hg']; simp)));have HB4 := Hd (OG.blk hB.out (by simpa using hgb2));have HR4 : Hid (∀ f ∈ (⟨x, l, some ⟨b2, off2, none⟩, c3, pf⟩ :: S : List PF), RestOk (wr.setCell ⟨g, t * 2 + 1, none⟩ (.slice (some ⟨b2, off2, none⟩) u c3)) (.slice A L.length cd) f) := Hd (fun f hf => by
      rcases List.mem_cons.1 hf with rfl | hf
      ·exact HRT.out.blk hbS (by decide) OG
      ·exact (hR.out f (List.mem_cons_of_mem _ hf)).blk hbS (by decide) OG)
     have HO4 := Hd (hO.out.step OG (fun i hi hl => by have := (hS.out.lt g (by simp [Value.ownBlock])).1; simp at hi; omega));clear OG hbS curS
     by_cases hy : (y : Int) ∈ K'
     ·rw [decide_eq_true hy] at e4;have HKS := Hd (hK.out.skip (A' := some ⟨b2, off2, none⟩) (c' := c3) hy);clear hy;go_wp2_with fail
      have HLS4 := Hd (lookS_of (S := ⟨x, l, some ⟨b2, off2, none⟩, c3, pf⟩ :: S) (by rw [List.length_cons, ← HT.out]; exact HSN.out));have HLM4 := Hd (leftM_mark HB4.out);go_roundw
      case rel =>
       have hh : t = S.length := HT.out
       first | exact ⟨⟨x, l, some ⟨b2, off2, none⟩, c3, pf⟩ :: S, L, g, c, A, cd, K', by rw [List.length_cons, hh], rfl, by rw [List.length_cons, ← hh]; exact HSN, HL4, HR4, HKS, HB4, HO4⟩ | exact ⟨_, _, ⟨⟨x, l, some ⟨b2, off2, none⟩, c3, pf⟩ :: S, L, g, c, A, cd, K', by rw [List.length_cons, hh], rfl, by rw [List.length_cons, ← hh]; exact HSN, HL4, HR4, HKS, HB4, HO4⟩, rfl, rfl⟩
      case measure =>
       have h1 := HLS4.out;rw [List.length_cons, ← HT.out] at h1;rw [HLM4.out, HLM.out, h1, HLS.out];simp [sumS]
     ·rw [decide_eq_false hy] at e4;have HKS := Hd (fun (A2 : Option Addr) (c2 : Nat) => hK.out.push (A' := some ⟨b2, off2, none⟩) (c' := c3) (A2 := A2) (c2 := c2) hy (HE.out y hyn) (HNL.out y hyn) (HNN.out y hyn));have HKN := Hd (leftK_snoc hyn hy);have hnl := HNL.out y hyn;clear hy;obtain ⟨w4, hw4⟩ : ∃ w4, w4 = wr.setCell ⟨g, t * 2 + 1, none⟩ (.slice (some ⟨b2, off2, none⟩) u c3) := ⟨_, rfl⟩;have OM : Only [b] (wr.setCell ⟨g, t * 2 + 1, none⟩ (.slice (some ⟨b2, off2, none⟩) u c3)) ((wr.setCell ⟨g, t * 2 + 1, none⟩ (.slice (some ⟨b2, off2, none⟩) u c3)).setCell ⟨b, y, none⟩ (.bool true)) := (Only.refl [b] _).put (p := ⟨b, y, none⟩) (fun _ => by simp) _;have HB5 : Hid (Blk ((wr.setCell ⟨g, t * 2 + 1, none⟩ (.slice (some ⟨b2, off2, none⟩) u c3)).setCell ⟨b, y, none⟩ (.bool true)) b 4 (markC n (K' ++ [(y : Int)]))) := Hd (by rw [markC_snoc n K' y hyn]; exact HB4.out.put y _);have HS5 := Hd (own_only HSN.out OM (fun g' hg' hm => own_apart HSN.out HB4.out (by decide) (by simp at hm; rw [← hm, hg']; simp)));have HL5 := Hd (own_only HL4.out OM (fun g' hg' hm => own_apart HL4.out HB4.out (by decide) (by simp at hm; rw [← hm, hg']; simp)));have HR5 := Hd (fun f hf => (HR4.out f hf).blk HB4.out (by decide) OM);have HO5 := Hd (HO4.out.trans OM);clear OM HSN HL4 HR4 HB4 HO4 hw4 hR hK hB hL hO HRT HQ w4 hS;go_wp2_with fail
      clear e0 e1 e2 e4 e5 hbw hgl c0 hbl2 hwg hsl;generalize ((wr.setCell ⟨g, t * 2 + 1, none⟩ (.slice (some ⟨b2, off2, none⟩) u c3)).setCell ⟨b, y, none⟩ (.bool true)) = w5 at *;refine (HC.out y w5 hyn HO5.out).mono ?_;rintro e w6 ⟨v, ⟨rfl, hv⟩, O6⟩;obtain ⟨A6, c6, rfl, -, -, -, -⟩ := own_row hv;have HV6 := Hd (RestOk.new (dv := .slice A L.length cd) (x := y) (p := (D ++ L).length) hv (fun g' hg' => own_lt HL5.out hg'));have HB6 := Hd (O6.blk HB5.out (by simp));have HS6 := Hd (own_only HS5.out O6 (by simp));have HL6 := Hd (own_only HL5.out O6 (by simp));have HR6 := Hd (fun f hf => (HR5.out f hf).same O6);have HO6 := Hd (HO5.out.step O6 (by simp));have hw6 := HO6.out.size;clear hv O6 HB5 HS5 HL5 HR5 HO5;go_wp2_with (
       at_builtin
       refine wpList_append_row _ rfl (.tmp 68) (.tmp 74) 70 rfl w.heap.size 69 is _ 2 32 Tryd.underlying70 his hq0 hq1 hq2 rfl (by omega) _ (t + 1) _ (by rfl) (own_only HS6.out ((Only.refl [] w6).alloc (.cells #[.int .i64 (y : Int), .slice A6 (N y).length c6] 69)) (fun _ _ => by simp)) _ _ 1 1 [.int .i64 (y : Int), .slice A6 (N y).length c6] (by rfl) (by rfl) (row_lit _ _ _) (by intro u hu; simp at hu; rcases hu with rfl | rfl <;> rfl) (by unfold maxLen; omega) (by omega) (by simp; omega) ?_;intro v' w7 hown hgrow hat;have OA := (Only.refl [] w6).alloc (.cells #[.int .i64 (y : Int), .slice A6 (N y).length c6] 69);have OV := only_grown hgrow;obtain ⟨g7, c7, rfl⟩ := own_some hown (by omega);have hSA := own_only HS6.out OA (fun _ _ => by simp);obtain ⟨curS, hbS⟩ := own_blk hSA (g := g) rfl;have HS7 := Hd hown;have HO7 := Hd ((HO6.out.step OA (by simp)).step OV (fun i hi hl => by have := (hSA.lt i (by simpa using hi)).1; omega));have HB7 := Hd (OV.blk (OA.blk HB6.out (by simp)) (own_apart hSA (OA.blk HB6.out (by simp)) (by decide)));have HL7 := Hd (own_only (own_only HL6.out OA (by simp)) OV (fun g hg hm => own_own (own_only HL6.out OA (by simp)) hSA (by decide) g hg hm));have HR7 := Hd (fun f hf => ((HR6.out f hf).same OA).blk hbS (by decide) OV);have HV7 := Hd ((HV6.out.same OA).blk hbS (by decide) OV);clear hown hgrow hat OA OV hSA hbS curS)
      have HKP := Hd (HKS.out A6 c6);have hh : t = S.length := HT.out;have HSS : Hid (w7.ownsRow w.heap.size 69 2 (.slice (some ⟨g7, 0, none⟩) (⟨y, N y, A6, c6, (D ++ L).length⟩ :: ⟨x, l, some ⟨b2, off2, none⟩, c3, pf⟩ :: S : List PF).length c7) (⟨y, N y, A6, c6, (D ++ L).length⟩ :: ⟨x, l, some ⟨b2, off2, none⟩, c3, pf⟩ :: S : List PF).length (stkC (⟨y, N y, A6, c6, (D ++ L).length⟩ :: ⟨x, l, some ⟨b2, off2, none⟩, c3, pf⟩ :: S))) := Hd (by
       simp only [List.length_cons, ← hh];exact HS7.out)
      have HRR : Hid (∀ f ∈ (⟨y, N y, A6, c6, (D ++ L).length⟩ :: ⟨x, l, some ⟨b2, off2, none⟩, c3, pf⟩ :: S : List PF), RestOk w7 (.slice A L.length cd) f) := Hd (fun f hf => by
       rcases List.mem_cons.1 hf with rfl | hf
       ·exact HV7.out
       ·exact HR7.out f hf)
      have HLS7 := Hd (lookS_of HSS.out);have HLM7 := Hd (leftM_mark HB7.out);go_roundw
      case rel => first | exact ⟨_, L, g7, c7, A, cd, _, by simp only [List.length_cons, hh], rfl, HSS, HL7, HRR, HKP, HB7, HO7⟩ | exact ⟨_, _, ⟨_, L, g7, c7, A, cd, _, by simp only [List.length_cons, hh], rfl, HSS, HL7, HRR, HKP, HB7, HO7⟩, rfl, rfl⟩
      case measure =>
       have h1 := HLS7.out;simp only [List.length_cons, ← HT.out] at h1;rw [HLM7.out, HLM.out, h1, HLS.out, ← HKN.out, Nat.mul_add, Nat.mul_one];generalize (n + 2) * leftK n (K' ++ [(y : Int)]) = z;simp [sumS];omega
end Go.Proofs.YtlemjgjpglmphaaDoor
