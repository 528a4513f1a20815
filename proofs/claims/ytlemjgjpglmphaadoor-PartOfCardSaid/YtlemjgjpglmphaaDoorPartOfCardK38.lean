/- Parts. -/
import Derived.Test.YtlemjgjpglmphaaDoorPartOfCardK32
import Derived.Test.YtlemjgjpglmphaaDoorPartOfCardK37
set_option maxRecDepth 10000
set_option maxHeartbeats 16000000
set_option linter.unusedVariables false
set_option linter.unusedSimpArgs false
namespace Go.Proofs.YtlemjgjpglmphaaDoor
open Go.RowKit
attribute [local go_sem ↓] Go.wp_at_zero Go.wp_at_succ
theorem intsN_ints (L : List Nat) : intsN L = (L.map fun x : Nat => (x : Int)).map (Value.int .i64) := by simp [intsN, Function.comp_def]
theorem rev_at {D : List Nat} {i r : Nat} (h : D.reverse[i]? = some r) : D = (D.reverse.drop (i + 1)).reverse ++ r :: (D.reverse.take i).reverse := by
 have h1 := (List.getElem?_eq_some_iff.1 h);obtain ⟨hi, h2⟩ := h1;have h3 : D.reverse = D.reverse.take i ++ r :: D.reverse.drop (i + 1) := by
  rw [← h2, List.getElem_cons_drop, List.take_append_drop]
 have h4 := congrArg List.reverse h3;rw [List.reverse_reverse] at h4;rw [List.reverse_append, List.reverse_cons, List.append_assoc] at h4;exact h4
theorem take_at {T : List Nat} {i r : Nat} (h : T[i]? = some r) : T.take (i + 1) = T.take i ++ [r] := by
 rw [List.take_add_one, h]; rfl
theorem info_rowI : (Tryd.prog.info? 29).map (fun i => (i.zero, i.size, i.bytes)) = some (some (.slice none 0 0), 1, 24) := by kernel_rfl
theorem parts_any (n p : Nat) (l : List (Int × Int)) (N M : Nat → List Nat) (w : World) (hn : n ≤ 500) (wf : WfE n l)
  (hN : ∀ i, i < n → ∀ z ∈ N i, z < n) (hNl : ∀ i, i < n → (N i).length ≤ n) (hNE : ∀ i, i < n → ∀ m : Nat, edR l i m ↔ m ∈ N i)
  (hM : ∀ i, i < n → ∀ z ∈ M i, z < n) (hMl : ∀ i, i < n → (M i).length ≤ n) (hME : ∀ i, i < n → ∀ m : Nat, edR l m i ↔ m ∈ M i)
  (hlen : ∀ w', Only [] w w' → Calls Tryd.prog 27 #[.pointer (some ⟨p, 0, none⟩)] w' fun e w'' => e = .returned (.int .i64 (n : Int)) ∧ w' = w'')
  (hnext : ∀ (i : Nat) w', i < n → Only [] w w' → Calls Tryd.prog 28 #[.pointer (some ⟨p, 0, none⟩), .int .i64 (i : Int)] w' fun e w'' => ∃ v, (e = .returned v ∧ w''.ownsRow w'.heap.size 3 1 v (N i).length (intsN (N i))) ∧ Only [] w' w'')
  (hback : ∀ (i : Nat) w', i < n → Only [] w w' → Calls Tryd.prog 31 #[.pointer (some ⟨p, 0, none⟩), .int .i64 (i : Int)] w' fun e w'' => ∃ v, (e = .returned v ∧ w''.ownsRow w'.heap.size 3 1 v (M i).length (intsN (M i))) ∧ Only [] w' w'') :
  Calls Tryd.prog 17 #[.pointer (some ⟨p, 0, none⟩)] w fun e w' => ∃ (qs : List LP) (A : Option Addr) (c : Nat), (e = .returned (.slice A qs.length c) ∧ w'.ownsRow w.heap.size 29 1 (.slice A qs.length c) qs.length (qs.map LP.v) ∧ (∀ x ∈ qs, x.Ok w' w.heap.size) ∧ qs.map LP.L = partsL n l) ∧ Only [] w w' := by
 obtain ⟨i0, hi, hz0, hz1, hz2⟩ := info_parts info_rowI;have hmk := fun W => make_marks n hn W;have HLE := Hd hlen;have HWK := Hd (fun (W : World) (O : Only [] w W) => walk_any n p N (edR l) W hn hN hNl hNE (fun i w' hi O2 => hnext i w' hi (O.trans O2)));have HF := Hd (fun (r b : Nat) (D : List Nat) (K : List Int) (W : World) (hr : r < n) (hb : w.heap.size ≤ b) (O : Only [] w W) (hrD : r ∉ D) (hD : Dfs (fun a b => edR l b a) D []) (hDn : ∀ d ∈ D, d < n) (hB : Blk W b 4 (markC n K)) (hKD : ∀ x : Nat, (x : Int) ∈ K ↔ x ∈ D) =>
  from_any n p r b 31 (.inr rfl) M (fun a b => edR l b a) D K W hn hr hrD hD hDn hM hMl hME hB hKD (fun i w' hi O2 => hback i w' hi (O.step O2 (fun j hj hl => by simp at hj; omega))))
 have HWF := Hd wf;clear hnext hback hlen hN hNl hNE hM hMl hME wf;go_enter Tryd.func17, Tryd.ntmps17;go_wp2_with fail
 refine (HLE.out w (Only.refl _ _)).mono ?_;rintro e w1 ⟨rfl, rfl⟩;go_wp2_with fail
 refine (HWK.out w (Only.refl _ _)).mono ?_;rintro e w1 ⟨D, A0, c0, K0, ⟨rfl, hL1, hW⟩, O1⟩;have hDl := hW.len;have hw1 := O1.size;have HRV : Hid (Calls Tryd.prog 29 #[.slice A0 D.length c0] w1 fun e w' => e = .returned (.tuple #[]) ∧ w'.ownsRow w.heap.size 3 1 (.slice A0 D.length c0) D.length (intsN D.reverse) ∧ Only (Value.slice A0 D.length c0).ownBlock.toList w1 w') := Hd (by
  have := irev_own (w := w1) (base := w.heap.size) (A := A0) (c := c0) (D.map fun x : Nat => (x : Int)) (by rw [List.length_map, ← intsN_ints]; exact hL1) (by rw [List.length_map]; omega);rw [List.length_map, ← List.map_reverse, ← intsN_ints] at this;exact this)
 have HOB := Hd (fun j (hj : j ∈ (Value.slice A0 D.length c0).ownBlock.toList) => (hL1.lt j (by simpa using hj)).1);have HO1 := Hd O1;have HDK := Hd hW;clear hL1 O1 hW HWK;go_wp2_with fail
 refine (HRV.out).mono ?_;rintro e w2 ⟨rfl, hV, O2⟩;have HV2 := Hd hV;have HO2 := Hd (HO1.out.step O2 (fun j hj hl => by have := HOB.out j hj; omega));clear hV O2 HRV HO1;go_wp2_with fail
 refine (HLE.out w2 HO2.out).mono ?_;rintro e w3 ⟨rfl, rfl⟩;have hw2 := HO2.out.size;go_wp2_with fail
 have HV3 := Hd (own_only HV2.out ((Only.refl [] w2).alloc (.cells (markC n []) 4)) (by simp));have HM3 := Hd (Blk.made w2 4 (markC n []));have HO3 := Hd (HO2.out.alloc (.cells (markC n []) 4));clear hmk HV2 HO2 HOB;generalize (w2.alloc (.cells (markC n []) 4)) = w3 at *;obtain ⟨b, hb⟩ : ∃ b, b = w2.heap.size := ⟨_, rfl⟩;rw [← hb] at HM3 ⊢;have HBL : Hid (w.heap.size ≤ b) := Hd (by rw [hb]; exact hw2);clear hb
 go_loopw [5, 21] (fun av iv wr => ∃ (i : Nat) (ps : List LP) (A : Option Addr) (c : Nat) (K : List Int) (X R : List Nat), av = .slice A ps.length c ∧ iv = .int .i64 i ∧ i ≤ D.length ∧ ps.length ≤ i ∧ (ps = [] → A = none ∧ c = 0) ∧ Hid (wr.ownsRow w.heap.size 29 1 (.slice A ps.length c) ps.length (ps.map LP.v)) ∧ Hid (∀ x ∈ ps, x.Ok wr w.heap.size) ∧ Hid (ps.map LP.L = R.map (partL n l)) ∧ Hid (PartK n l D (D.reverse.take i) X R) ∧ Hid (Blk wr b 4 (markC n K)) ∧ Hid (∀ x : Nat, (x : Int) ∈ K ↔ x ∈ X) ∧ Hid (wr.ownsRow w.heap.size 3 1 (.slice A0 D.length c0) D.length (intsN D.reverse)) ∧ Hid (Only [] w wr)) (fun _ iv _ => D.length - (intOf iv).toNat)
 case atStart => exact ⟨0, [], none, 0, [], [], [], rfl, rfl, by omega, by simp, fun _ => ⟨rfl, rfl⟩, Hd (World.ownsRow_nil _ _ _ _), Hd (by simp), Hd rfl, Hd (.start D), HM3, Hd (by simp), HV3, HO3⟩
 case round =>
  obtain ⟨i, ps, A, c, K, X, R, rfl, rfl, hin, hpl, hnil, hA, hP, hPR, hK, hB, hKX, hV, hO⟩ := hrel;clear HV3 HM3 HO3
  by_cases hlt : i < D.length
  ·have h01 : (i : Int) < (D.length : Int) := by omega
   have hi0 : (0 : Int) ≤ (i : Int) := Int.natCast_nonneg _;have hwi : IntKind.i64.wrap ((i : Int) + 1) = (i : Int) + 1 := IntWalk.i64_in _ (by omega);obtain ⟨r, hr⟩ : ∃ r, D.reverse[i]? = some r := ⟨_, List.getElem?_eq_getElem (by rw [List.length_reverse]; exact hlt)⟩;have hDl2 := HDK.out;have hrn : r < n := hDl2.lt r (by have := List.mem_of_getElem? hr; simpa using this);have hr0 : (0 : Int) ≤ (r : Int) := Int.natCast_nonneg _;obtain ⟨gd, cd, ed⟩ := own_some hV.out (by omega);injection ed with ed1 ed2 ed3;subst ed1 ed3;have e0 := (own_cell hV.out (g := gd) rfl (j := i) (u := .int .i64 (r : Int)) (by unfold intsN; rw [List.getElem?_map, hr]; rfl)).1;have egl : gd < wr.heap.size := own_lt hV.out (by simp [Value.ownBlock]);have e4 := (hB.out.at_ r).trans (markC_at n K r hrn);have hbl := hB.out.lt;have HTK := Hd (take_at hr);have HDR := Hd (rev_at hr);clear hr
   by_cases hy : (r : Int) ∈ K
   ·rw [decide_eq_true hy] at e4;have HKS : Hid (PartK n l D (D.reverse.take (i + 1)) X R) := Hd (by rw [HTK.out]; exact hK.out.skip ((hKX.out r).1 hy));clear hy;go_wp2
    go_roundw
    case rel => first | exact ⟨i + 1, ps, A, c, K, X, R, rfl, by go_num, by omega, by omega, hnil, hA, hP, hPR, HKS, hB, hKX, hV, hO⟩ | exact ⟨_, _, ⟨i + 1, ps, A, c, K, X, R, rfl, by go_num, by omega, by omega, hnil, hA, hP, hPR, HKS, hB, hKX, hV, hO⟩, rfl, rfl⟩
    case measure => simp [intOf]; omega
   ·rw [decide_eq_false hy] at e4;have HRX : Hid (r ∉ X) := Hd (fun hm => hy ((hKX.out r).2 hm));have HC := Hd (HF.out r b X K wr hrn HBL.out hO.out HRX.out hK.out.dfs (fun d hd => ((hK.out.all d).1 hd).1) hB.out hKX.out);clear hy;go_wp2_with fail
    refine (HC.out).mono ?_;rintro e w4 ⟨L, A1, c1, K1, ⟨rfl, hL4, hG, hLn, hB4, hK4⟩, O4⟩;have hPK := hK.out.gone HWF.out HDK.out.dfs.k (fun x => ⟨HDK.out.lt x, HDK.out.got x⟩) HDR.out HRX.out hG;have HPK : Hid (PartK n l D (D.reverse.take (i + 1)) (X ++ L) (R ++ [r])) := Hd (by rw [HTK.out]; exact hPK.1);have hLne : 0 < L.length := List.length_pos_of_mem ((hG.all r).2 ⟨.refl r, HRX.out⟩);have hLnd : L.Nodup := by
     have := hG.dfs.nd;simp only [nodesS, List.map_nil, List.append_nil] at this;exact (List.nodup_append.1 this).2.1
    have hLl := nodup_lt_len hLnd hLn;obtain ⟨g1, c1', eg⟩ := own_some hL4 hLne;injection eg with eg1 eg2 eg3;subst eg1 eg3;have hg1 := (hL4.lt g1 rfl).1;have HST : Hid (Calls Tryd.prog 32 #[.slice (some ⟨g1, 0, none⟩) L.length c1] w4 fun e w' => e = .returned (.tuple #[]) ∧ (⟨g1, c1, partL n l r⟩ : LP).Ok w' w.heap.size ∧ (partL n l r).length = L.length ∧ Only [g1] w4 w') := Hd (by
     have := isort_own (w := w4) (base := w.heap.size) (g := g1) (c := c1) (L.map fun x : Nat => (x : Int)) (by rw [List.length_map, ← intsN_ints]; exact own_lower hL4 hO.out.size) (by rw [List.length_map]; omega);rw [List.length_map] at this;refine this.mono ?_;rintro e w' ⟨he, ys, h1, h2, h3, h4, h5⟩;have hys : ys = partL n l r := part_sorted hLnd hPK.2 h3 h4;subst hys;refine ⟨he, ⟨h1, ?_, ?_⟩, h5, h2⟩
     ·intro h6;have h7 : partL n l r = [] := h6;rw [h7] at h5;simp at h5;omega
     ·intro z hz;obtain ⟨q, rfl, hq, -⟩ := mem_part.1 hz;omega)
    have HB4 := Hd hB4;have HK4 := Hd hK4;have HA4 := Hd (own_only hA.out O4 (fun g hg hm => own_apart hA.out hB.out (by decide) (by simp at hm; rw [← hm, hg]; simp)));have HV4 := Hd (own_only hV.out O4 (fun g hg hm => own_apart hV.out hB.out (by decide) (by simp at hm; rw [← hm, hg]; simp)));have HP4 := Hd (fun x hx => (hP.out x hx).only O4 (fun hm => own_apart (hP.out x hx).1 hB.out (by decide) (by simp at hm; rw [← hm]; simp [LP.v, Value.ownBlock])));have HPB := Hd (fun x hx => ((hP.out x hx).head).2.1);have hx4 : w4.ownsRow wr.heap.size 3 1 (.slice (some ⟨g1, 0, none⟩) L.length c1) L.length (intsN L) := hL4;have hO0 := hO.out.size;have hdw : gd < wr.heap.size := egl;have HO4 := Hd (hO.out.step O4 (fun j hj hl => by simp at hj; have := HBL.out; omega));clear hL4 hG hLn hB4 hK4 O4 hPK hLnd hA hV hP hB hK hO HC;go_wp2_with fail
    refine (HST.out).mono ?_;rintro e w5 ⟨rfl, hx5, hl5, O5⟩;have HB5 := Hd (O5.blk HB4.out (by simp; have := hbl; omega));have HA5 := Hd (own_only HA4.out O5 (fun g hg hm => own_own HA4.out hx4 (by decide) g hg (by simp at hm; rw [hm]; simp [Value.ownBlock])));have HV5 := Hd (own_only HV4.out O5 (fun g hg hm => by simp at hm; simp [Value.ownBlock] at hg; omega));have HP5 := Hd (fun x hx => (HP4.out x hx).only O5 (fun hm => by simp at hm; have := HPB.out x hx; omega));have HX5 := Hd hx5;have HL5 := Hd hl5;have HO5 := Hd (HO4.out.step O5 (fun j hj hl => by simp at hj; have := hO0; omega));have hw5 := HO5.out.size;clear hx5 hl5 O5 HB4 HA4 HV4 HP4 HO4 HST hx4 HPB e0 e4;go_wp2_with (
     at_builtin
     refine wpList_append_row _ rfl (.tmp 37) (.tmp 39) 25 rfl w.heap.size 29 i0 _ 1 24 Tryd.underlying25 hi hz0 hz1 hz2 rfl (by omega) _ ps.length (ps.map LP.v) (by rfl) (own_only HA5.out ((Only.refl [] w5).alloc (.cells #[.slice (some ⟨g1, 0, none⟩) L.length c1] 29)) (fun _ _ => by simp)) _ _ 1 1 [.slice (some ⟨g1, 0, none⟩) L.length c1] (by rfl) (by rfl) (row_lit _ _ _) (by intro u hu; simp at hu; rcases hu with rfl; rfl) (by unfold maxLen; omega) (by omega) (by simp; omega) ?_;intro v' w7 hown hgrow hat;have OA := (Only.refl [] w5).alloc (.cells #[.slice (some ⟨g1, 0, none⟩) L.length c1] 29);have OV := only_grown hgrow;obtain ⟨A7, c7, rfl, -, -, -, -⟩ := own_row hown;have hAA := own_only HA5.out OA (by simp);have HA7 : Hid (w7.ownsRow w.heap.size 29 1 (.slice A7 (ps ++ [(⟨g1, c1, partL n l r⟩ : LP)]).length c7) (ps ++ [(⟨g1, c1, partL n l r⟩ : LP)]).length ((ps ++ [(⟨g1, c1, partL n l r⟩ : LP)]).map LP.v)) := Hd (by
      rw [List.map_append, List.length_append];have e : LP.v ⟨g1, c1, partL n l r⟩ = .slice (some ⟨g1, 0, none⟩) L.length c1 := by rw [← HL5.out]; rfl
      rw [List.map_cons, List.map_nil, e];exact hown)
     have HO7 := Hd ((HO5.out.step OA (by simp)).step OV (fun i hi hl => by have := (hAA.lt i (by simpa using hi)).1; omega));have HB7 := Hd (OV.blk (OA.blk HB5.out (by simp)) (own_apart hAA (OA.blk HB5.out (by simp)) (by decide)));have HV7 := Hd (own_only (own_only HV5.out OA (by simp)) OV (fun g hg hm => own_own (own_only HV5.out OA (by simp)) hAA (by decide) g hg hm));have HP7 : Hid (∀ x ∈ ps ++ [(⟨g1, c1, partL n l r⟩ : LP)], x.Ok w7 w.heap.size) := Hd (fun x hx => by
      have h1 : x.Ok w5 w.heap.size := by
       rcases List.mem_append.1 hx with h2 | h2
       ·exact HP5.out x h2
       ·rw [List.mem_singleton.1 h2]; exact HX5.out
      have h2 := h1.only OA (by simp);exact h2.only OV (fun hm => own_own h2.1 hAA (by decide) x.b rfl hm))
     have HPR7 : Hid ((ps ++ [(⟨g1, c1, partL n l r⟩ : LP)]).map LP.L = (R ++ [r]).map (partL n l)) := Hd (by
      rw [List.map_append, List.map_append, hPR.out]; rfl)
     clear hown hgrow hat OA OV hAA)
    go_roundw
    case rel => first | exact ⟨i + 1, _, A7, c7, K1, _, _, by simp, by go_num, by omega, by simp; omega, by simp, HA7, HP7, HPR7, HPK, HB7, HK4, HV7, HO7⟩ | exact ⟨_, _, ⟨i + 1, _, A7, c7, K1, _, _, by simp, by go_num, by omega, by simp; omega, by simp, HA7, HP7, HPR7, HPK, HB7, HK4, HV7, HO7⟩, rfl, rfl⟩
    case measure => simp [intOf]; omega
  ·have hid : D.length = i := by omega
   subst hid;have hd : decide ((D.length : Int) < (D.length : Int)) = false := by simp
   have hall : ∀ x, x < n → ∃ r ∈ R, simB n l r x = true := hK.out.end_ (fun x hx => by rw [List.take_of_length_le (by simp)]; simpa using HDK.out.got x hx);have HQ := Hd (fun (Q : List (List Int)) h1 h2 => parts_sorted HWF.out hK.out.rn hK.out.ne hall (Q := Q) h1 h2);clear hall hK HF hKX
   by_cases hps : ps = []
   ·subst hps;obtain ⟨rfl, rfl⟩ := hnil rfl;have HN := Hd (fun (fv : Value) => psortf_none fv wr);go_wp2_with fail
    refine (HN.out _).mono ?_;rintro e w5 ⟨rfl, rfl⟩;go_wp2
    go_ret
    exact ⟨[], none, 0, ⟨rfl, hA.out, hP.out, HQ.out [] (by rw [← hPR.out]; exact List.Perm.refl _) List.Pairwise.nil⟩, hO.out⟩
   ·obtain ⟨g, c', eg⟩ := own_some hA.out (List.length_pos_iff.2 hps);injection eg with eg1 eg2 eg3;subst eg1 eg3;have HS := Hd (psort_own ps hps hA.out (fun x hx => ⟨fun e => own_own (hP.out x hx).1 hA.out (by decide) x.b rfl (by rw [e]; simp [Value.ownBlock]), (hP.out x hx).head.1, (hP.out x hx).head.2.1, (hP.out x hx).head.2.2⟩) (by omega));have HGB := Hd (hA.out.lt g rfl).1;have HGX := Hd (fun (x : LP) (hx : x ∈ ps) (e : x.b = g) => own_own (hP.out x hx).1 hA.out (by decide) x.b rfl (by rw [e]; simp [Value.ownBlock]));go_wp2_with fail
    refine (HS.out).mono ?_;rintro e w5 ⟨rfl, qs, hq1, hq2, hq3, O5⟩;have HA5 := Hd hq3;have HLL := Hd hq1.length_eq;have HP5 : Hid (∀ x ∈ qs, x.Ok w5 w.heap.size) := Hd (fun x hx => (hP.out x (hq1.mem_iff.1 hx)).only O5 (fun hm => HGX.out x (hq1.mem_iff.1 hx) (by simpa using hm)));have HQ5 : Hid (qs.map LP.L = partsL n l) := Hd (HQ.out _ (by rw [← hPR.out]; exact hq1.map _) (List.pairwise_map.2 hq2));have HO5 := Hd (hO.out.step O5 (fun j hj hl => by simp at hj; have := HGB.out; omega));clear hq1 hq2 hq3 O5 HS HGX HGB hA hP hPR hO HQ;go_wp2
    go_ret
    exact ⟨qs, some ⟨g, 0, none⟩, c, ⟨by rw [HLL.out]; rfl, HA5.out, HP5.out, HQ5.out⟩, HO5.out⟩
end Go.Proofs.YtlemjgjpglmphaaDoor
