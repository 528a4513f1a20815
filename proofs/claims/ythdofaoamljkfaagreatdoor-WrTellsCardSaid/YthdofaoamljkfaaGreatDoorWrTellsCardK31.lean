/- Parts. -/
import Derived.Test.YthdofaoamljkfaaGreatDoorWrTellsCardK30
set_option maxRecDepth 10000
set_option maxHeartbeats 16000000
set_option linter.unusedVariables false
set_option linter.unusedSimpArgs false
namespace Go.Proofs.YthdofaoamljkfaaGreatDoor
open Go.RowKit
open Go.Lib hiding intOf
attribute [local go_sem ↓] Go.wp_at_zero Go.wp_at_succ
structure EvR where
 k : Int
 s : ByteArray
 y : ByteArray
 vk : Int
 vn : Int
 is : Bool
 e : Int
def evNo (e : Int) : EvR := ⟨0, ⟨#[]⟩, ⟨#[]⟩, 0, 0, false, e⟩
def evOf (ws : List ByteArray) : EvR :=
 match ws with
 | [] => evNo 0
 | w0 :: _ =>
  if kOk (wK w0) = true ∧ (ws.length : Int) = (if kO (wK w0) = true then 4 else 2) ∧ isName (ws.getD 1 ⟨#[]⟩) = true then
   (if kO (wK w0) = true then
    (if isName (ws.getD 2 ⟨#[]⟩) = true then
     (if opE (wK w0) (ws.getD 3 ⟨#[]⟩) = 0 then ⟨wK w0, ws.getD 1 ⟨#[]⟩, ws.getD 2 ⟨#[]⟩, opK (wK w0) (ws.getD 3 ⟨#[]⟩), opN (wK w0) (ws.getD 3 ⟨#[]⟩), true, 0⟩ else evNo (opE (wK w0) (ws.getD 3 ⟨#[]⟩)))
    else evNo 5)
   else ⟨wK w0, ws.getD 1 ⟨#[]⟩, ⟨#[]⟩, 0, 0, true, 0⟩)
  else evNo 5
def evParse (s : ByteArray) : EvR := if badL (by_ s) = true then evNo 5 else evOf (textsOf s)
def evRV (r : EvR) : Value := .tuple #[.agg #[.int .i64 r.k, .string r.s, .string r.y, .int .i64 r.vk, .int .i64 r.vn, .int .i64 0], .bool r.is, .int .i64 r.e]
theorem wordsV_at (s : ByteArray) : ∀ (ps : List (Nat × Nat)) (i : Nat) (x : ByteArray), (ps.map fun p => s.extract p.1 p.2)[i]? = some x → (wordsV s ps)[i * 2]? = some (.string x)
 | [], i, x, h => by simp at h
 | p :: ps, 0, x, h => by
  simp at h;subst h
  rfl
 | p :: ps, i + 1, x, h => by
  have := wordsV_at s ps i x (by simpa using h);unfold wordsV at this ⊢;rw [List.flatMap_cons, show (i + 1) * 2 = i * 2 + (wordV s p).length by simp [wordV]; omega];rw [List.getElem?_append_right (by omega), Nat.add_sub_cancel];exact this
theorem texts_size (s : ByteArray) : ∀ x ∈ textsOf s, x.size ≤ s.size := by
 intro x hx;unfold textsOf at hx;obtain ⟨p, -, rfl⟩ := List.mem_map.1 hx;rw [ByteArray.size_extract];omega
theorem evparse_any (s : ByteArray) (w : World) (hs : s.size ≤ 65535) (hT : UTabs w) (hM : MLen w) (hV : Verbs w) :
  Calls Tryz.prog 75 #[.string s] w fun e w' => e = .returned (evRV (evParse s)) ∧ Only [] w w' := by
 have HWS := Hd (fun w' (hO : Only [] w w') => words_any s w' hs (hT.only hO) (hM.only hO));have HKD := Hd (fun x w' (hO : Only [] w w') => ofWord_any x w' (hV.only hO));have HIS := Hd (fun x w' (hx : x ∈ textsOf s) (hO : Only [] w w') => is_any x w' (by have := texts_size s x hx; omega) (hT.only hO));have HWN := Hd (fun k kw ko w' => vwords_any k kw ko w');have HOP := Hd (fun k x w' (hx : x ∈ textsOf s) => operand_any k x w' (by have := texts_size s x hx; omega));obtain ⟨r, hr⟩ : ∃ r, r = evParse s := ⟨_, rfl⟩;rw [← hr];unfold evParse at hr;have HO := Hd ((Only.refl [] w).alloc (.cells #[.int .i64 0, .string ⟨#[]⟩, .string ⟨#[]⟩, .int .i64 0, .int .i64 0, .int .i64 0] 104));have HB := Hd (Blk.made w 104 #[.int .i64 0, .string ⟨#[]⟩, .string ⟨#[]⟩, .int .i64 0, .int .i64 0, .int .i64 0]);have HWL := Hd (show (wordsOf (by_ s)).length = (textsOf s).length by simp [textsOf]);have HWV := Hd (fun i x h => wordsV_at s (wordsOf (by_ s)) i x h);have HSL : Hid ((textsOf s).length ≤ 65536) := Hd (by
  rw [← HWL.out];have := spans_len (codeL (by_ s)) 0 none;have h2 := ahead_len (by_ s);rw [code_len] at this;have h3 := by_length s;unfold wordsOf;omega)
 have HRB := Hd hr;clear hr hT hM hV hs;go_enter Tryz.func75, Tryz.ntmps75;go_wp2_with fail
 refine (HWS.out _ HO.out).mono ?_;rintro e w1 ⟨O1, ⟨hb, rfl⟩ | ⟨hb, V, rfl, hown⟩⟩
 ·have hr : r = evNo 5 := by rw [HRB.out, if_pos hb]
  have bR := O1.blk HB.out (by simp);have HO1 := Hd (HO.out.trans O1);clear O1 hb HRB;subst hr;have h0 := HO1.out.size;go_upto_region 3 with (fail)
  refine wp_region_lit ?_;refine wpList_plain rfl (fun K hK => ?_);go_simp;refine hK _ _ ?_;clear hK K;refine wpList_plain rfl (fun K hK => ?_);go_simp;refine hK _ _ ?_;clear hK K;refine wpList_store_mid rfl 104 (.tmp 2) (.tmp 22) rfl w.heap.size 0 #[.int .i64 0, .string ⟨#[]⟩, .string ⟨#[]⟩, .int .i64 0, .int .i64 0, .int .i64 0] rfl rfl bR.there (by kernel_rfl) (by kernel_rfl) ?_;go_wp2
  refine bodyPost_ret (results_row3 Tryz.results75 _ _ w.heap.size 104 #[.int .i64 0, .string ⟨#[]⟩, .string ⟨#[]⟩, .int .i64 0, .int .i64 0, .int .i64 0] _ rfl (bR.putAll _ rfl) Tryz.underlying104 rfl (by kernel_rfl)) rfl ⟨rfl, HO1.out.putAll (fun h => by omega) _⟩
 have hr : r = evOf (textsOf s) := by rw [HRB.out, if_neg (by rw [hb]; simp)]
 rw [HWL.out] at hown;obtain ⟨A, c, rfl, hc1, hc2, -, hrow⟩ := own_row hown;have bR := O1.blk HB.out (by simp);have HO1 := Hd (HO.out.trans O1);have HWV2 : Hid (∀ i x, (textsOf s)[i]? = some x → (wordsV s (wordsOf (by_ s)))[i * 2]? = some (.string x)) := Hd (fun i x h => HWV.out i x h);have HWL2 : Hid ((wordsV s (wordsOf (by_ s))).length = (textsOf s).length * 2) := Hd (by rw [wordsV_len, HWL.out]; omega);have HROW := Hd hrow;clear O1 hb HRB hown HWL HWV hrow;generalize wordsV s (wordsOf (by_ s)) = cells at *;generalize textsOf s = ws at *;have h0 := HO1.out.size;have hsl := HSL.out
 cases hws : ws with
 | nil =>
  subst hws;have hr : r = evNo 0 := hr;subst hr;clear HROW HWV2 HWL2;go_upto_region 3 with (fail)
  refine wp_region_lit ?_;refine wpList_plain rfl (fun K hK => ?_);go_simp;refine hK _ _ ?_;clear hK K;refine wpList_plain rfl (fun K hK => ?_);go_simp;refine hK _ _ ?_;clear hK K;refine wpList_store_mid rfl 104 (.tmp 2) (.tmp 22) rfl w.heap.size 0 #[.int .i64 0, .string ⟨#[]⟩, .string ⟨#[]⟩, .int .i64 0, .int .i64 0, .int .i64 0] rfl rfl bR.there (by kernel_rfl) (by kernel_rfl) ?_;go_wp2
  refine bodyPost_ret (results_row3 Tryz.results75 _ _ w.heap.size 104 #[.int .i64 0, .string ⟨#[]⟩, .string ⟨#[]⟩, .int .i64 0, .int .i64 0, .int .i64 0] _ rfl (bR.putAll _ rfl) Tryz.underlying104 rfl (by kernel_rfl)) rfl ⟨rfl, HO1.out.putAll (fun h => by omega) _⟩
 | cons w0 rest =>
  rw [← hws];obtain ⟨n, hn⟩ : ∃ n, n = ws.length := ⟨_, rfl⟩;have hn1 : 1 ≤ n := by rw [hn, hws]; simp
  rw [← hn] at HWL2 hsl hc1 ⊢;obtain ⟨b, off, rfl, -, hbw, hcell⟩ := HROW.out.open_ (k := 0) (by rw [HWL2.out]; omega);have HC : Hid (∀ i x, ws[i]? = some x → ∀ w', Only [] w1 w' → w'.cell? ⟨b, off + i * 2, none⟩ = some (.string x)) := Hd (fun i x hi w' hO => (hO.cell (p := ⟨b, off + i * 2, none⟩) hbw (by simp)).trans (hcell _ _ (HWV2.out i x hi)));have hc0 := HC.out 0 w0 (by rw [hws]; rfl) w1 (Only.refl [] w1);simp at hc0;have hr : r = evOf ws := hr;have hmem0 : w0 ∈ ws := by rw [hws]; simp
  have HEV : Hid (r = if kOk (wK w0) = true ∧ (n : Int) = (if kO (wK w0) = true then 4 else 2) ∧ isName (ws.getD 1 ⟨#[]⟩) = true then
   (if kO (wK w0) = true then
    (if isName (ws.getD 2 ⟨#[]⟩) = true then
     (if opE (wK w0) (ws.getD 3 ⟨#[]⟩) = 0 then ⟨wK w0, ws.getD 1 ⟨#[]⟩, ws.getD 2 ⟨#[]⟩, opK (wK w0) (ws.getD 3 ⟨#[]⟩), opN (wK w0) (ws.getD 3 ⟨#[]⟩), true, 0⟩ else evNo (opE (wK w0) (ws.getD 3 ⟨#[]⟩)))
    else evNo 5)
   else ⟨wK w0, ws.getD 1 ⟨#[]⟩, ⟨#[]⟩, 0, 0, true, 0⟩)
  else evNo 5) := Hd (by rw [hr, hws, hn, hws]; rfl)
  have HN := Hd hn;clear hr hws hcell HROW HWV2 HWL2 hn hmem0;have HK0 := Hd (HKD.out w0 w1 HO1.out);obtain ⟨kk, hkk⟩ : ∃ x, x = wK w0 := ⟨_, rfl⟩;rw [← hkk] at HEV HK0;obtain ⟨kw, hkw⟩ : ∃ x, x = kW kk := ⟨_, rfl⟩;obtain ⟨ko, hko⟩ : ∃ x, x = kO kk := ⟨_, rfl⟩;obtain ⟨is, his⟩ : ∃ x, x = kOk kk := ⟨_, rfl⟩;rw [← hkw, ← hko, ← his] at HK0;rw [← hko, ← his] at HEV;clear hkk hkw hko his HKD;have h01 : (0 : Int) < (n : Int) := by omega
  go_wp2_with fail
  refine (HK0.out).mono ?_;rintro e w2 ⟨rfl, O2⟩;have HX2 := Hd (O2.alloc (.cells #[.int .i64 kk, .string kw, .bool ko] 122));have HV2 := Hd (Blk.made w2 122 #[.int .i64 kk, .string kw, .bool ko]);have bR2 := O2.blk bR (by simp);have HR2 := Hd (bR2.alloc (.cells #[.int .i64 kk, .string kw, .bool ko] 122));have hsz2 := O2.size;clear O2 hc0 HK0;obtain ⟨wn, hwn⟩ : ∃ x : Int, x = if ko = true then 4 else 2 := ⟨_, rfl⟩
  have HW3 := Hd (HWN.out kk kw ko (w2.alloc (.cells #[.int .i64 kk, .string kw, .bool ko] 122)));rw [← hwn] at HEV HW3;have HWNN := Hd hwn;have HOX := Hd (HO1.out.trans HX2.out);clear hwn
  cases is with
  | false =>
   obtain rfl : r = evNo 5 := by rw [HEV.out]; simp
   have bR := HR2.out;clear HEV;go_upto_region 6 with (fail)
   refine wp_region_lit ?_;refine wpList_plain rfl (fun K hK => ?_);go_simp;refine hK _ _ ?_;clear hK K;refine wpList_store_mid rfl 104 (.tmp 2) (.tmp 49) rfl w.heap.size 0 #[.int .i64 0, .string ⟨#[]⟩, .string ⟨#[]⟩, .int .i64 0, .int .i64 0, .int .i64 0] rfl rfl bR.there (by kernel_rfl) (by kernel_rfl) ?_;go_wp2
   refine bodyPost_ret (results_row3 Tryz.results75 _ _ w.heap.size 104 #[.int .i64 0, .string ⟨#[]⟩, .string ⟨#[]⟩, .int .i64 0, .int .i64 0, .int .i64 0] _ rfl (bR.putAll _ rfl) Tryz.underlying104 rfl (by kernel_rfl)) rfl ⟨rfl, HOX.out.putAll (fun h => by omega) _⟩
  | true =>
   go_wp2_with fail
   refine (HW3.out).mono ?_;rintro e w3 ⟨rfl, O3⟩;have HX3 := Hd (HX2.out.trans O3);have HO3 := Hd (HO1.out.trans HX3.out);have bR3 := O3.blk HR2.out (by simp);have HV3 := Hd (O3.blk HV2.out (by simp));have hsz3 := O3.size;rw [World.size_alloc] at hsz3;clear O3 HW3 HOX
   by_cases hnn : (n : Int) = wn
   ·subst hnn;have hko : (ko = false ∧ n = 2) ∨ (ko = true ∧ n = 4) := by
     have := HWNN.out
     cases ko
     ·left; simp at this; exact ⟨rfl, by omega⟩
     ·right; simp at this; exact ⟨rfl, by omega⟩
    have h11 : (1 : Int) < (n : Int) := by omega
    obtain ⟨x1, hx1⟩ : ∃ x1, ws[1]? = some x1 := ⟨_, List.getElem?_eq_getElem (by rw [← HN.out]; omega)⟩;have HX1 := Hd hx1;have HG1 := Hd (show ws.getD 1 ⟨#[]⟩ = x1 by simp [List.getD_eq_getElem?_getD, hx1]);have hc1 := HC.out 1 x1 hx1 w3 HX3.out;simp at hc1;have HS1 := Hd (HIS.out x1 w3 (List.mem_of_getElem? hx1) HO3.out);rw [HG1.out] at HEV;have HKO := Hd hko;obtain ⟨ns, hns⟩ : ∃ x, x = isName x1 := ⟨_, rfl⟩;rw [← hns] at HEV HS1;clear hx1 hns hko;go_wp2_with fail
    refine (HS1.out).mono ?_;rintro e w4 ⟨rfl, O4⟩;have HX4 := Hd (HX3.out.trans O4);have HO4 := Hd (HO1.out.trans HX4.out);have bR := O4.blk bR3 (by simp);have HV4 := Hd (O4.blk HV3.out (by simp));have hsz4 := O4.size;clear O4 HS1 hc1 HV3 HX3 HO3 bR3
    cases ns with
    | false =>
     obtain rfl : r = evNo 5 := by rw [HEV.out]; simp
     clear HEV;go_upto_region 6 with (fail)
     refine wp_region_lit ?_;refine wpList_plain rfl (fun K hK => ?_);go_simp;refine hK _ _ ?_;clear hK K;refine wpList_store_mid rfl 104 (.tmp 2) (.tmp 49) rfl w.heap.size 0 #[.int .i64 0, .string ⟨#[]⟩, .string ⟨#[]⟩, .int .i64 0, .int .i64 0, .int .i64 0] rfl rfl bR.there (by kernel_rfl) (by kernel_rfl) ?_;go_wp2
     refine bodyPost_ret (results_row3 Tryz.results75 _ _ w.heap.size 104 #[.int .i64 0, .string ⟨#[]⟩, .string ⟨#[]⟩, .int .i64 0, .int .i64 0, .int .i64 0] _ rfl (bR.putAll _ rfl) Tryz.underlying104 rfl (by kernel_rfl)) rfl ⟨rfl, HO4.out.putAll (fun h => by omega) _⟩
    | true =>
     have HEV2 : Hid (r = (if ko = true then
       (if isName (ws.getD 2 ⟨#[]⟩) = true then
        (if opE kk (ws.getD 3 ⟨#[]⟩) = 0 then ⟨kk, x1, ws.getD 2 ⟨#[]⟩, opK kk (ws.getD 3 ⟨#[]⟩), opN kk (ws.getD 3 ⟨#[]⟩), true, 0⟩ else evNo (opE kk (ws.getD 3 ⟨#[]⟩)))
       else evNo 5)
      else ⟨kk, x1, ⟨#[]⟩, 0, 0, true, 0⟩)) := Hd (by rw [HEV.out]; simp)
     clear HEV;go_upto_region 7 with (fail)
     have RD0 := Hd fun wq (hSw : Only [] w4 wq) => aI ((hSw.blk HV4.out (by simp)).at_ 0) (HC.out 1 x1 HX1.out _ (HX4.out.trans hSw));refine rg1 [] [] w4 ?_;refine tQ 0 (h := trq 1 0 RD0 (h := tQ 2 (h := tQ 3 (h := tQ 4 (h := trq 5 0 RD0 (h := tQ 6 (h := ?_)))))));refine tst (i := 7) fun K hK => ?_;go_simp;refine kOut hK (((Only.refl [] w4).drew).alloc _) (h := ?_);clear hK K;refine tst (i := 8) fun K hK => ?_;refine wp_store_blk 104 (.tmp 9) (.tmp 56) rfl w4.heap.size 104 #[.int .i64 0, .string ⟨#[]⟩, .string ⟨#[]⟩, .int .i64 0, .int .i64 0, .int .i64 0] #[.int .i64 kk, .string x1, .string ⟨#[]⟩, .int .i64 0, .int .i64 0, .int .i64 0] rfl rfl (Blk.made _ _ _) rfl (by kernel_rfl) (by kernel_rfl) ?_;intro w5 bE O5;have HS5 := Hd ((((Only.refl [] w4).drew).alloc (.cells #[.int .i64 0, .string ⟨#[]⟩, .string ⟨#[]⟩, .int .i64 0, .int .i64 0, .int .i64 0] 104)).step O5 (fun i hi hl => by simp at hi; omega));clear O5;refine kOut hK (HS5.out) (h := ?_);clear hK K;refine tdn ?_;have HX5 := Hd (HX4.out.trans HS5.out);have HO5 := Hd (HO1.out.trans HX5.out);have bR5 := HS5.out.blk bR (by simp);have HV5 := Hd (HS5.out.blk HV4.out (by simp));have hszR := bR.lt;have v2 := HV5.out.at_ 2;have lV := HV5.out.lt;have hle1 := HX4.out.size;simp at v2;clear bR HV4 HX4 HO4 HS5;rcases HKO.out with ⟨rfl, hn4⟩ | ⟨rfl, hn4⟩
     ·obtain rfl : r = ⟨kk, x1, ⟨#[]⟩, 0, 0, true, 0⟩ := by rw [HEV2.out]; simp
      have bR := bR5;clear HEV2 HKO;go_upto_region 9 with (fail)
      refine wp_region_lit ?_;refine wpList_load_mid rfl 104 (.tmp 9) rfl w4.heap.size 0 rfl (#[.int .i64 kk, .string x1, .string ⟨#[]⟩, .int .i64 0, .int .i64 0, .int .i64 0] : Array Value).toList _ bE.range Tryz.underlying104 rfl (by kernel_rfl) ?_;refine wpList_store_mid rfl 104 (.tmp 2) (.tmp 60) rfl w.heap.size 0 #[.int .i64 kk, .string x1, .string ⟨#[]⟩, .int .i64 0, .int .i64 0, .int .i64 0] rfl rfl bR.there (by kernel_rfl) (by kernel_rfl) ?_;go_wp2
      refine bodyPost_ret (results_row3 Tryz.results75 _ _ w.heap.size 104 #[.int .i64 kk, .string x1, .string ⟨#[]⟩, .int .i64 0, .int .i64 0, .int .i64 0] _ rfl (bR.putAll _ rfl) Tryz.underlying104 rfl (by kernel_rfl)) rfl ⟨rfl, HO5.out.putAll (fun h => by omega) _⟩
     ·have h22 : (2 : Int) < (n : Int) := by omega
      have h33 : (3 : Int) < (n : Int) := by omega
      obtain ⟨x2, hx2⟩ : ∃ x, ws[2]? = some x := ⟨_, List.getElem?_eq_getElem (by rw [← HN.out]; omega)⟩;obtain ⟨x3, hx3⟩ : ∃ x, ws[3]? = some x := ⟨_, List.getElem?_eq_getElem (by rw [← HN.out]; omega)⟩;have HX3' := Hd hx3;have HX2' := Hd hx2;have HEV3 : Hid (r = (if isName x2 = true then (if opE kk x3 = 0 then ⟨kk, x1, x2, opK kk x3, opN kk x3, true, 0⟩ else evNo (opE kk x3)) else evNo 5)) := Hd (by
       rw [HEV2.out, show ws.getD 2 ⟨#[]⟩ = x2 by simp [List.getD_eq_getElem?_getD, hx2], show ws.getD 3 ⟨#[]⟩ = x3 by simp [List.getD_eq_getElem?_getD, hx3]];simp)
      have hc2 := HC.out 2 x2 hx2 w5 HX5.out;simp at hc2;have HS2 := Hd (HIS.out x2 w5 (List.mem_of_getElem? hx2) HO5.out);have HOP3 := Hd (fun w' => HOP.out kk x3 w' (List.mem_of_getElem? hx3));obtain ⟨ns, hns⟩ : ∃ x, x = isName x2 := ⟨_, rfl⟩;rw [← hns] at HEV3 HS2;clear hx2 hx3 hns HEV2 HKO hn4;go_wp2_with fail
      refine (HS2.out).mono ?_;rintro e w6 ⟨rfl, O6⟩;have HX6 := Hd (HX5.out.trans O6);have HO6 := Hd (HO1.out.trans HX6.out);have bR6 := O6.blk bR5 (by simp);have HV6 := Hd (O6.blk HV5.out (by simp));have bE6 := O6.blk bE (by simp);clear O6 HS2 hc2 v2 lV HV5 HX5 HO5 bR5 bE
      cases ns with
      | false =>
       obtain rfl : r = evNo 5 := by rw [HEV3.out]; simp
       have bR := bR6;clear HEV3;go_upto_region 11 with (fail)
       refine wp_region_lit ?_;refine wpList_plain rfl (fun K hK => ?_);go_simp;refine hK _ _ ?_;clear hK K;refine wpList_store_mid rfl 104 (.tmp 2) (.tmp 67) rfl w.heap.size 0 #[.int .i64 0, .string ⟨#[]⟩, .string ⟨#[]⟩, .int .i64 0, .int .i64 0, .int .i64 0] rfl rfl bR.there (by kernel_rfl) (by kernel_rfl) ?_;go_wp2
       refine bodyPost_ret (results_row3 Tryz.results75 _ _ w.heap.size 104 #[.int .i64 0, .string ⟨#[]⟩, .string ⟨#[]⟩, .int .i64 0, .int .i64 0, .int .i64 0] _ rfl (bR.putAll _ rfl) Tryz.underlying104 rfl (by kernel_rfl)) rfl ⟨rfl, HO6.out.putAll (fun h => by omega) _⟩
      | true =>
       have hc2 := HC.out 2 x2 HX2'.out w6 HX6.out;simp at hc2;have lE := bE6.lt;have e2 := bE6.at_ 2;have g2 := bE6.free 2;simp at e2;go_upto_region 13 with (fail)
       have bE7 := bE6.put 2 (.string x2);have O7 : Only [w4.heap.size] w6 (w6.setCell ⟨w4.heap.size, 2, none⟩ (.string x2)) := (Only.refl _ w6).put (fun _ => by simp) _;have HX7 := Hd (HX6.out.step O7 (fun i hi hl => by simp at hi; omega));have HO7 := Hd (HO1.out.trans HX7.out);have HV7 := Hd (O7.blk HV6.out (by simp; omega));have bR7 := O7.blk bR6 (by simp; omega);clear O7 lE e2 g2 bE6 HX6 HO6 HV6 bR6 hc2;generalize (w6.setCell ⟨w4.heap.size, 2, none⟩ (.string x2)) = w7 at *;obtain ⟨oe, hoe⟩ : ∃ x, x = opE kk x3 := ⟨_, rfl⟩;obtain ⟨ok, hok⟩ : ∃ x, x = opK kk x3 := ⟨_, rfl⟩;obtain ⟨on, hon⟩ : ∃ x, x = opN kk x3 := ⟨_, rfl⟩;rw [← hoe, ← hok, ← hon] at HEV3 HOP3;clear hoe hok hon;have RD0 := Hd fun wq (hSw : Only [w4.heap.size] w7 wq) => aI ((hSw.blk HV7.out (by simp; omega)).at_ 0) (HC.out 3 x3 HX3'.out _ (HX7.out.step hSw (fun i hi hl => by simp at hi; omega)));refine rgo (F := [⟨[], [], fun w' => Only [w4.heap.size] w7 w'⟩]) (th1 ((Only.refl [w4.heap.size] w7).drew)) ?_;refine tQ 0 (h := trq 1 0 RD0 (h := tQ 2 (h := tQ 3 (h := tQ 4 (h := trq 5 0 RD0 (h := ?_))))));refine tst (i := 6) fun K hK => ?_;go_simp;refine (HOP3.out _).mono ?_;rintro e w8 ⟨rfl, O8⟩;have bE8 := O8.blk bE7 (by simp);have bR8 := O8.blk bR7 (by simp);have HX8 := Hd (HX7.out.drew.trans O8);have l8 := bE8.lt;have e3 := bE8.at_ 3;have e4 := bE8.at_ 4;have g3 := bE8.free 3;have g4 := bE8.free 4;simp at e3 e4;refine kOut hK (((Only.refl [w4.heap.size] w7).drew).trans (O8.wide (fun i hi => by cases hi))) (h := ?_);clear hK K;refine tQ 7 (h := tQ 8 (h := tQ 9 (h := tQ 10 (h := ?_))));refine tst (i := 11) fun K hK => ?_;go_simp;refine kOut hK (((((Only.refl [w4.heap.size] w7).drew).trans (O8.wide (fun i hi => by cases hi))).put (fun _ => by simp) _).put (fun _ => by simp) _) (h := ?_);clear hK K;refine tQ 12 (h := ?_);refine tdn ?_;have bE : Blk ((w8.setCell ⟨w4.heap.size, 3, none⟩ (.int .i64 ok)).setCell ⟨w4.heap.size, 4, none⟩ (.int .i64 on)) w4.heap.size 104 #[.int .i64 kk, .string x1, .string x2, .int .i64 ok, .int .i64 on, .int .i64 0] := (bE8.put 3 (.int .i64 ok)).put 4 (.int .i64 on);have bR : Blk ((w8.setCell ⟨w4.heap.size, 3, none⟩ (.int .i64 ok)).setCell ⟨w4.heap.size, 4, none⟩ (.int .i64 on)) w.heap.size 104 #[.int .i64 0, .string ⟨#[]⟩, .string ⟨#[]⟩, .int .i64 0, .int .i64 0, .int .i64 0] := (bR8.far (by simp only; omega) _).far (by simp only; omega) _;have HX9 := Hd ((HX8.out.put (p := ⟨w4.heap.size, 3, none⟩) (fun h => by simp only at h; omega) (.int .i64 ok)).put (p := ⟨w4.heap.size, 4, none⟩) (fun h => by simp only at h; omega) (.int .i64 on));have HO9 := Hd (HO1.out.trans HX9.out);clear bE8 bR8 HX8 l8 e3 e4 g3 g4 bE7 bR7 HX7 HO7 HV7 O8 HX9;generalize ((w8.setCell ⟨w4.heap.size, 3, none⟩ (.int .i64 ok)).setCell ⟨w4.heap.size, 4, none⟩ (.int .i64 on)) = w9 at *
       by_cases hoe : oe = 0
       ·subst hoe;obtain rfl : r = ⟨kk, x1, x2, ok, on, true, 0⟩ := by rw [HEV3.out]; simp
        clear HEV3;go_upto_region 16 with (fail)
        refine wp_region_lit ?_;refine wpList_load_mid rfl 104 (.tmp 9) rfl w4.heap.size 0 rfl (#[.int .i64 kk, .string x1, .string x2, .int .i64 ok, .int .i64 on, .int .i64 0] : Array Value).toList _ bE.range Tryz.underlying104 rfl (by kernel_rfl) ?_;refine wpList_store_mid rfl 104 (.tmp 2) (.tmp 88) rfl w.heap.size 0 #[.int .i64 kk, .string x1, .string x2, .int .i64 ok, .int .i64 on, .int .i64 0] rfl rfl bR.there (by kernel_rfl) (by kernel_rfl) ?_;go_wp2
        refine bodyPost_ret (results_row3 Tryz.results75 _ _ w.heap.size 104 #[.int .i64 kk, .string x1, .string x2, .int .i64 ok, .int .i64 on, .int .i64 0] _ rfl (bR.putAll _ rfl) Tryz.underlying104 rfl (by kernel_rfl)) rfl ⟨rfl, HO9.out.putAll (fun h => by omega) _⟩
       ·have hne : (oe != 0) = true := by simpa using hoe
        obtain rfl : r = evNo oe := by rw [HEV3.out]; simp [hoe]
        clear HEV3 hoe;go_upto_region 15 with (fail)
        refine wp_region_lit ?_;refine wpList_plain rfl (fun K hK => ?_);go_simp;refine hK _ _ ?_;clear hK K;refine wpList_plain rfl (fun K hK => ?_);go_simp;refine hK _ _ ?_;clear hK K;refine wpList_store_mid rfl 104 (.tmp 2) (.tmp 86) rfl w.heap.size 0 #[.int .i64 0, .string ⟨#[]⟩, .string ⟨#[]⟩, .int .i64 0, .int .i64 0, .int .i64 0] rfl rfl bR.there (by kernel_rfl) (by kernel_rfl) ?_;go_wp2
        refine bodyPost_ret (results_row3 Tryz.results75 _ _ w.heap.size 104 #[.int .i64 0, .string ⟨#[]⟩, .string ⟨#[]⟩, .int .i64 0, .int .i64 0, .int .i64 0] _ rfl (bR.putAll _ rfl) Tryz.underlying104 rfl (by kernel_rfl)) rfl ⟨rfl, HO9.out.putAll (fun h => by omega) _⟩
   ·have hne : ((n : Int) != wn) = true := by simpa using hnn
    obtain rfl : r = evNo 5 := by
     rw [HEV.out, if_neg];rintro ⟨-, h, -⟩;exact hnn h
    have bR := bR3;clear HEV hnn;go_upto_region 6 with (fail)
    refine wp_region_lit ?_;refine wpList_plain rfl (fun K hK => ?_);go_simp;refine hK _ _ ?_;clear hK K;refine wpList_store_mid rfl 104 (.tmp 2) (.tmp 49) rfl w.heap.size 0 #[.int .i64 0, .string ⟨#[]⟩, .string ⟨#[]⟩, .int .i64 0, .int .i64 0, .int .i64 0] rfl rfl bR.there (by kernel_rfl) (by kernel_rfl) ?_;go_wp2
    refine bodyPost_ret (results_row3 Tryz.results75 _ _ w.heap.size 104 #[.int .i64 0, .string ⟨#[]⟩, .string ⟨#[]⟩, .int .i64 0, .int .i64 0, .int .i64 0] _ rfl (bR.putAll _ rfl) Tryz.underlying104 rfl (by kernel_rfl)) rfl ⟨rfl, HO3.out.putAll (fun h => by omega) _⟩
end Go.Proofs.YthdofaoamljkfaaGreatDoor
