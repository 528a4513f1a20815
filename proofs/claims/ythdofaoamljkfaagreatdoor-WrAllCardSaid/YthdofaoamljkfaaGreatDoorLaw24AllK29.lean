/- Parts. -/
import Derived.Test.YthdofaoamljkfaaGreatDoorLaw24AllK28
import Derived.Lib.ItoaLen
set_option maxRecDepth 10000
set_option maxHeartbeats 16000000
set_option linter.unusedVariables false
set_option linter.unusedSimpArgs false
namespace Go.Proofs.YthdofaoamljkfaaGreatDoor
open Go.RowKit
open Go.Lib hiding intOf
attribute [local go_sem ↓] Go.wp_at_zero Go.wp_at_succ
structure EvR where
 k : Int
 s : ByteArray
 y : ByteArray
 vk : Int
 vn : Int
 is : Bool
 e : Int
def evNo (e : Int) : EvR := ⟨0, ⟨#[]⟩, ⟨#[]⟩, 0, 0, false, e⟩
def evOf (ws : List ByteArray) : EvR :=
 match ws with
 | [] => evNo 0
 | w0 :: _ =>
  if kOk (wK w0) = true ∧ (ws.length : Int) = (if kO (wK w0) = true then 4 else 2) ∧ isName (ws.getD 1 ⟨#[]⟩) = true then
   (if kO (wK w0) = true then
    (if isName (ws.getD 2 ⟨#[]⟩) = true then
     (if opE (wK w0) (ws.getD 3 ⟨#[]⟩) = 0 then ⟨wK w0, ws.getD 1 ⟨#[]⟩, ws.getD 2 ⟨#[]⟩, opK (wK w0) (ws.getD 3 ⟨#[]⟩), opN (wK w0) (ws.getD 3 ⟨#[]⟩), true, 0⟩ else evNo (opE (wK w0) (ws.getD 3 ⟨#[]⟩)))
    else evNo 5)
   else ⟨wK w0, ws.getD 1 ⟨#[]⟩, ⟨#[]⟩, 0, 0, true, 0⟩)
  else evNo 5
def evParse (s : ByteArray) : EvR := if badL (by_ s) = true then evNo 5 else evOf (textsOf s)
def evRV (r : EvR) : Value := .tuple #[.agg #[.int .i64 r.k, .string r.s, .string r.y, .int .i64 r.vk, .int .i64 r.vn, .int .i64 0], .bool r.is, .int .i64 r.e]
theorem wordsV_at (s : ByteArray) : ∀ (ps : List (Nat × Nat)) (i : Nat) (x : ByteArray), (ps.map fun p => s.extract p.1 p.2)[i]? = some x → (wordsV s ps)[i * 2]? = some (.string x)
 | [], i, x, h => by simp at h
 | p :: ps, 0, x, h => by
  simp at h;subst h
  rfl
 | p :: ps, i + 1, x, h => by
  have := wordsV_at s ps i x (by simpa using h);unfold wordsV at this ⊢;rw [List.flatMap_cons, show (i + 1) * 2 = i * 2 + (wordV s p).length by simp [wordV]; omega];rw [List.getElem?_append_right (by omega), Nat.add_sub_cancel];exact this
theorem texts_size (s : ByteArray) : ∀ x ∈ textsOf s, x.size ≤ s.size := by
 intro x hx;unfold textsOf at hx;obtain ⟨p, -, rfl⟩ := List.mem_map.1 hx;rw [ByteArray.size_extract];omega
theorem evparse_any (s : ByteArray) (w : World) (hs : s.size ≤ 65535) (hT : UTabs w) (hM : MLen w) (hV : Verbs w) :
  Calls Tryz.prog 75 #[.string s] w fun e w' => e = .returned (evRV (evParse s)) ∧ Only [] w w' := by
 have HWS := Hd (fun w' (hO : Only [] w w') => words_any s w' hs (hT.only hO) (hM.only hO));have HKD := Hd (fun x w' (hO : Only [] w w') => ofWord_any x w' (hV.only hO));have HIS := Hd (fun x w' (hx : x ∈ textsOf s) (hO : Only [] w w') => is_any x w' (by have := texts_size s x hx; omega) (hT.only hO));have HWN := Hd (fun k kw ko w' => vwords_any k kw ko w');have HOP := Hd (fun k x w' (hx : x ∈ textsOf s) => operand_any k x w' (by have := texts_size s x hx; omega));obtain ⟨r, hr⟩ : ∃ r, r = evParse s := ⟨_, rfl⟩;rw [← hr];unfold evParse at hr;have HO := Hd ((Only.refl [] w).alloc (.cells #[.int .i64 0, .string ⟨#[]⟩, .string ⟨#[]⟩, .int .i64 0, .int .i64 0, .int .i64 0] 104));have HB := Hd (Blk.made w 104 #[.int .i64 0, .string ⟨#[]⟩, .string ⟨#[]⟩, .int .i64 0, .int .i64 0, .int .i64 0]);have HWL := Hd (show (wordsOf (by_ s)).length = (textsOf s).length by simp [textsOf]);have HWV := Hd (fun i x h => wordsV_at s (wordsOf (by_ s)) i x h);have HSL : Hid ((textsOf s).length ≤ 65536) := Hd (by
  rw [← HWL.out];have := spans_len (codeL (by_ s)) 0 none;have h2 := ahead_len (by_ s);rw [code_len] at this;have h3 := by_length s;unfold wordsOf;omega)
 have HRB := Hd hr;clear hr hT hM hV hs;go_enter Tryz.func75, Tryz.ntmps75;go_wp2_with fail
 refine (HWS.out _ HO.out).mono ?_;rintro e w1 ⟨O1, ⟨hb, rfl⟩ | ⟨hb, V, rfl, hown⟩⟩
 ·have hr : r = evNo 5 := by rw [HRB.out, if_pos hb]
  have bR := O1.blk HB.out (by simp);have HO1 := Hd (HO.out.trans O1);clear O1 hb HRB;subst hr;have h0 := HO1.out.size;go_upto_region 3 with (fail)
  refine wp_region_lit ?_;refine wpList_plain rfl (fun K hK => ?_);go_simp;refine hK _ _ ?_;clear hK K;refine wpList_plain rfl (fun K hK => ?_);go_simp;refine hK _ _ ?_;clear hK K;refine wpList_store_mid rfl 104 (.tmp 2) (.tmp 22) rfl w.heap.size 0 #[.int .i64 0, .string ⟨#[]⟩, .string ⟨#[]⟩, .int .i64 0, .int .i64 0, .int .i64 0] rfl rfl bR.there (by kernel_rfl) (by kernel_rfl) ?_;go_wp2
  refine bodyPost_ret (results_row3 Tryz.results75 _ _ w.heap.size 104 #[.int .i64 0, .string ⟨#[]⟩, .string ⟨#[]⟩, .int .i64 0, .int .i64 0, .int .i64 0] _ rfl (bR.putAll _ rfl) Tryz.underlying104 rfl (by kernel_rfl)) rfl ⟨rfl, HO1.out.putAll (fun h => by omega) _⟩
 have hr : r = evOf (textsOf s) := by rw [HRB.out, if_neg (by rw [hb]; simp)]
 rw [HWL.out] at hown;obtain ⟨A, c, rfl, hc1, hc2, -, hrow⟩ := own_row hown;have bR := O1.blk HB.out (by simp);have HO1 := Hd (HO.out.trans O1);have HWV2 : Hid (∀ i x, (textsOf s)[i]? = some x → (wordsV s (wordsOf (by_ s)))[i * 2]? = some (.string x)) := Hd (fun i x h => HWV.out i x h);have HWL2 : Hid ((wordsV s (wordsOf (by_ s))).length = (textsOf s).length * 2) := Hd (by rw [wordsV_len, HWL.out]; omega);have HROW := Hd hrow;clear O1 hb HRB hown HWL HWV hrow;generalize wordsV s (wordsOf (by_ s)) = cells at *;generalize textsOf s = ws at *;have h0 := HO1.out.size;have hsl := HSL.out
 cases hws : ws with
 | nil =>
  subst hws;have hr : r = evNo 0 := hr;subst hr;clear HROW HWV2 HWL2;go_upto_region 3 with (fail)
  refine wp_region_lit ?_;refine wpList_plain rfl (fun K hK => ?_);go_simp;refine hK _ _ ?_;clear hK K;refine wpList_plain rfl (fun K hK => ?_);go_simp;refine hK _ _ ?_;clear hK K;refine wpList_store_mid rfl 104 (.tmp 2) (.tmp 22) rfl w.heap.size 0 #[.int .i64 0, .string ⟨#[]⟩, .string ⟨#[]⟩, .int .i64 0, .int .i64 0, .int .i64 0] rfl rfl bR.there (by kernel_rfl) (by kernel_rfl) ?_;go_wp2
  refine bodyPost_ret (results_row3 Tryz.results75 _ _ w.heap.size 104 #[.int .i64 0, .string ⟨#[]⟩, .string ⟨#[]⟩, .int .i64 0, .int .i64 0, .int .i64 0] _ rfl (bR.putAll _ rfl) Tryz.underlying104 rfl (by kernel_rfl)) rfl ⟨rfl, HO1.out.putAll (fun h => by omega) _⟩
 | cons w0 rest =>
  rw [← hws];obtain ⟨n, hn⟩ : ∃ n, n = ws.length := ⟨_, rfl⟩;have hn1 : 1 ≤ n := by rw [hn, hws]; simp
  rw [← hn] at HWL2 hsl hc1 ⊢;obtain ⟨b, off, rfl, -, hbw, hcell⟩ := HROW.out.open_ (k := 0) (by rw [HWL2.out]; omega);have HC : Hid (∀ i x, ws[i]? = some x → ∀ w', Only [] w1 w' → w'.cell? ⟨b, off + i * 2, none⟩ = some (.string x)) := Hd (fun i x hi w' hO => (hO.cell (p := ⟨b, off + i * 2, none⟩) hbw (by simp)).trans (hcell _ _ (HWV2.out i x hi)));have hc0 := HC.out 0 w0 (by rw [hws]; rfl) w1 (Only.refl [] w1);simp at hc0;have hr : r = evOf ws := hr;have hmem0 : w0 ∈ ws := by rw [hws]; simp
  have HEV : Hid (r = if kOk (wK w0) = true ∧ (n : Int) = (if kO (wK w0) = true then 4 else 2) ∧ isName (ws.getD 1 ⟨#[]⟩) = true then
   (if kO (wK w0) = true then
    (if isName (ws.getD 2 ⟨#[]⟩) = true then
     (if opE (wK w0) (ws.getD 3 ⟨#[]⟩) = 0 then ⟨wK w0, ws.getD 1 ⟨#[]⟩, ws.getD 2 ⟨#[]⟩, opK (wK w0) (ws.getD 3 ⟨#[]⟩), opN (wK w0) (ws.getD 3 ⟨#[]⟩), true, 0⟩ else evNo (opE (wK w0) (ws.getD 3 ⟨#[]⟩)))
    else evNo 5)
   else ⟨wK w0, ws.getD 1 ⟨#[]⟩, ⟨#[]⟩, 0, 0, true, 0⟩)
  else evNo 5) := Hd (by rw [hr, hws, hn, hws]; rfl)
  have HN := Hd hn;clear hr hws hcell HROW HWV2 HWL2 hn hmem0;have HK0 := Hd (HKD.out w0 w1 HO1.out);obtain ⟨kk, hkk⟩ : ∃ x, x = wK w0 := ⟨_, rfl⟩;rw [← hkk] at HEV HK0;obtain ⟨kw, hkw⟩ : ∃ x, x = kW kk := ⟨_, rfl⟩;obtain ⟨ko, hko⟩ : ∃ x, x = kO kk := ⟨_, rfl⟩;obtain ⟨is, his⟩ : ∃ x, x = kOk kk := ⟨_, rfl⟩;rw [← hkw, ← hko, ← his] at HK0;rw [← hko, ← his] at HEV;clear hkk hkw hko his HKD;have h01 : (0 : Int) < (n : Int) := by omega
  go_wp2_with fail
  refine (HK0.out).mono ?_;rintro e w2 ⟨rfl, O2⟩;have HX2 := Hd (O2.alloc (.cells #[.int .i64 kk, .string kw, .bool ko] 122));have HV2 := Hd (Blk.made w2 122 #[.int .i64 kk, .string kw, .bool ko]);have bR2 := O2.blk bR (by simp);have HR2 := Hd (bR2.alloc (.cells #[.int .i64 kk, .string kw, .bool ko] 122));have hsz2 := O2.size;clear O2 hc0 HK0;obtain ⟨wn, hwn⟩ : ∃ x : Int, x = if ko = true then 4 else 2 := ⟨_, rfl⟩
  have HW3 := Hd (HWN.out kk kw ko (w2.alloc (.cells #[.int .i64 kk, .string kw, .bool ko] 122)));rw [← hwn] at HEV HW3;have HWNN := Hd hwn;have HOX := Hd (HO1.out.trans HX2.out);clear hwn
  cases is with
  | false =>
   obtain rfl : r = evNo 5 := by rw [HEV.out]; simp
   have bR := HR2.out;clear HEV;go_upto_region 6 with (fail)
   refine wp_region_lit ?_;refine wpList_plain rfl (fun K hK => ?_);go_simp;refine hK _ _ ?_;clear hK K;refine wpList_store_mid rfl 104 (.tmp 2) (.tmp 49) rfl w.heap.size 0 #[.int .i64 0, .string ⟨#[]⟩, .string ⟨#[]⟩, .int .i64 0, .int .i64 0, .int .i64 0] rfl rfl bR.there (by kernel_rfl) (by kernel_rfl) ?_;go_wp2
   refine bodyPost_ret (results_row3 Tryz.results75 _ _ w.heap.size 104 #[.int .i64 0, .string ⟨#[]⟩, .string ⟨#[]⟩, .int .i64 0, .int .i64 0, .int .i64 0] _ rfl (bR.putAll _ rfl) Tryz.underlying104 rfl (by kernel_rfl)) rfl ⟨rfl, HOX.out.putAll (fun h => by omega) _⟩
  | true =>
   go_wp2_with fail
   refine (HW3.out).mono ?_;rintro e w3 ⟨rfl, O3⟩;have HX3 := Hd (HX2.out.trans O3);have HO3 := Hd (HO1.out.trans HX3.out);have bR3 := O3.blk HR2.out (by simp);have HV3 := Hd (O3.blk HV2.out (by simp));have hsz3 := O3.size;rw [World.size_alloc] at hsz3;clear O3 HW3 HOX
   by_cases hnn : (n : Int) = wn
   ·subst hnn;have hko : (ko = false ∧ n = 2) ∨ (ko = true ∧ n = 4) := by
     have := HWNN.out
     cases ko
     ·left; simp at this; exact ⟨rfl, by omega⟩
     ·right; simp at this; exact ⟨rfl, by omega⟩
    have h11 : (1 : Int) < (n : Int) := by omega
    obtain ⟨x1, hx1⟩ : ∃ x1, ws[1]? = some x1 := ⟨_, List.getElem?_eq_getElem (by rw [← HN.out]; omega)⟩;have HX1 := Hd hx1;have HG1 := Hd (show ws.getD 1 ⟨#[]⟩ = x1 by simp [List.getD_eq_getElem?_getD, hx1]);have hc1 := HC.out 1 x1 hx1 w3 HX3.out;simp at hc1;have HS1 := Hd (HIS.out x1 w3 (List.mem_of_getElem? hx1) HO3.out);rw [HG1.out] at HEV;have HKO := Hd hko;obtain ⟨ns, hns⟩ : ∃ x, x = isName x1 := ⟨_, rfl⟩;rw [← hns] at HEV HS1;clear hx1 hns hko;go_wp2_with fail
    refine (HS1.out).mono ?_;rintro e w4 ⟨rfl, O4⟩;have HX4 := Hd (HX3.out.trans O4);have HO4 := Hd (HO1.out.trans HX4.out);have bR := O4.blk bR3 (by simp);have HV4 := Hd (O4.blk HV3.out (by simp));have hsz4 := O4.size;clear O4 HS1 hc1 HV3 HX3 HO3 bR3
    cases ns with
    | false =>
     obtain rfl : r = evNo 5 := by rw [HEV.out]; simp
     clear HEV;go_upto_region 6 with (fail)
     refine wp_region_lit ?_;refine wpList_plain rfl (fun K hK => ?_);go_simp;refine hK _ _ ?_;clear hK K;refine wpList_store_mid rfl 104 (.tmp 2) (.tmp 49) rfl w.heap.size 0 #[.int .i64 0, .string ⟨#[]⟩, .string ⟨#[]⟩, .int .i64 0, .int .i64 0, .int .i64 0] rfl rfl bR.there (by kernel_rfl) (by kernel_rfl) ?_;go_wp2
     refine bodyPost_ret (results_row3 Tryz.results75 _ _ w.heap.size 104 #[.int .i64 0, .string ⟨#[]⟩, .string ⟨#[]⟩, .int .i64 0, .int .i64 0, .int .i64 0] _ rfl (bR.putAll _ rfl) Tryz.underlying104 rfl (by kernel_rfl)) rfl ⟨rfl, HO4.out.putAll (fun h => by omega) _⟩
    | true =>
     have HEV2 : Hid (r = (if ko = true then
       (if isName (ws.getD 2 ⟨#[]⟩) = true then
        (if opE kk (ws.getD 3 ⟨#[]⟩) = 0 then ⟨kk, x1, ws.getD 2 ⟨#[]⟩, opK kk (ws.getD 3 ⟨#[]⟩), opN kk (ws.getD 3 ⟨#[]⟩), true, 0⟩ else evNo (opE kk (ws.getD 3 ⟨#[]⟩)))
       else evNo 5)
      else ⟨kk, x1, ⟨#[]⟩, 0, 0, true, 0⟩)) := Hd (by rw [HEV.out]; simp)
     clear HEV;go_upto_region 7 with (fail)
     have RD0 := Hd fun wq (hSw : Only [] w4 wq) => aI ((hSw.blk HV4.out (by simp)).at_ 0) (HC.out 1 x1 HX1.out _ (HX4.out.trans hSw));refine rg1 [] [] w4 ?_;refine tQ 0 (h := trq 1 0 RD0 (h := tQ 2 (h := tQ 3 (h := tQ 4 (h := trq 5 0 RD0 (h := tQ 6 (h := ?_)))))));refine tst (i := 7) fun K hK => ?_;go_simp;refine kOut hK (((Only.refl [] w4).drew).alloc _) (h := ?_);clear hK K;refine tst (i := 8) fun K hK => ?_;refine wp_store_blk 104 (.tmp 9) (.tmp 56) rfl w4.heap.size 104 #[.int .i64 0, .string ⟨#[]⟩, .string ⟨#[]⟩, .int .i64 0, .int .i64 0, .int .i64 0] #[.int .i64 kk, .string x1, .string ⟨#[]⟩, .int .i64 0, .int .i64 0, .int .i64 0] rfl rfl (Blk.made _ _ _) rfl (by kernel_rfl) (by kernel_rfl) ?_;intro w5 bE O5;have HS5 := Hd ((((Only.refl [] w4).drew).alloc (.cells #[.int .i64 0, .string ⟨#[]⟩, .string ⟨#[]⟩, .int .i64 0, .int .i64 0, .int .i64 0] 104)).step O5 (fun i hi hl => by simp at hi; omega));clear O5;refine kOut hK (HS5.out) (h := ?_);clear hK K;refine tdn ?_;have HX5 := Hd (HX4.out.trans HS5.out);have HO5 := Hd (HO1.out.trans HX5.out);have bR5 := HS5.out.blk bR (by simp);have HV5 := Hd (HS5.out.blk HV4.out (by simp));have hszR := bR.lt;have v2 := HV5.out.at_ 2;have lV := HV5.out.lt;have hle1 := HX4.out.size;simp at v2;clear bR HV4 HX4 HO4 HS5;rcases HKO.out with ⟨rfl, hn4⟩ | ⟨rfl, hn4⟩
     ·obtain rfl : r = ⟨kk, x1, ⟨#[]⟩, 0, 0, true, 0⟩ := by rw [HEV2.out]; simp
      have bR := bR5;clear HEV2 HKO;go_upto_region 9 with (fail)
      refine wp_region_lit ?_;refine wpList_load_mid rfl 104 (.tmp 9) rfl w4.heap.size 0 rfl (#[.int .i64 kk, .string x1, .string ⟨#[]⟩, .int .i64 0, .int .i64 0, .int .i64 0] : Array Value).toList _ bE.range Tryz.underlying104 rfl (by kernel_rfl) ?_;refine wpList_store_mid rfl 104 (.tmp 2) (.tmp 60) rfl w.heap.size 0 #[.int .i64 kk, .string x1, .string ⟨#[]⟩, .int .i64 0, .int .i64 0, .int .i64 0] rfl rfl bR.there (by kernel_rfl) (by kernel_rfl) ?_;go_wp2
      refine bodyPost_ret (results_row3 Tryz.results75 _ _ w.heap.size 104 #[.int .i64 kk, .string x1, .string ⟨#[]⟩, .int .i64 0, .int .i64 0, .int .i64 0] _ rfl (bR.putAll _ rfl) Tryz.underlying104 rfl (by kernel_rfl)) rfl ⟨rfl, HO5.out.putAll (fun h => by omega) _⟩
     ·have h22 : (2 : Int) < (n : Int) := by omega
      have h33 : (3 : Int) < (n : Int) := by omega
      obtain ⟨x2, hx2⟩ : ∃ x, ws[2]? = some x := ⟨_, List.getElem?_eq_getElem (by rw [← HN.out]; omega)⟩;obtain ⟨x3, hx3⟩ : ∃ x, ws[3]? = some x := ⟨_, List.getElem?_eq_getElem (by rw [← HN.out]; omega)⟩;have HX3' := Hd hx3;have HX2' := Hd hx2;have HEV3 : Hid (r = (if isName x2 = true then (if opE kk x3 = 0 then ⟨kk, x1, x2, opK kk x3, opN kk x3, true, 0⟩ else evNo (opE kk x3)) else evNo 5)) := Hd (by
       rw [HEV2.out, show ws.getD 2 ⟨#[]⟩ = x2 by simp [List.getD_eq_getElem?_getD, hx2], show ws.getD 3 ⟨#[]⟩ = x3 by simp [List.getD_eq_getElem?_getD, hx3]];simp)
      have hc2 := HC.out 2 x2 hx2 w5 HX5.out;simp at hc2;have HS2 := Hd (HIS.out x2 w5 (List.mem_of_getElem? hx2) HO5.out);have HOP3 := Hd (fun w' => HOP.out kk x3 w' (List.mem_of_getElem? hx3));obtain ⟨ns, hns⟩ : ∃ x, x = isName x2 := ⟨_, rfl⟩;rw [← hns] at HEV3 HS2;clear hx2 hx3 hns HEV2 HKO hn4;go_wp2_with fail
      refine (HS2.out).mono ?_;rintro e w6 ⟨rfl, O6⟩;have HX6 := Hd (HX5.out.trans O6);have HO6 := Hd (HO1.out.trans HX6.out);have bR6 := O6.blk bR5 (by simp);have HV6 := Hd (O6.blk HV5.out (by simp));have bE6 := O6.blk bE (by simp);clear O6 HS2 hc2 v2 lV HV5 HX5 HO5 bR5 bE
      cases ns with
      | false =>
       obtain rfl : r = evNo 5 := by rw [HEV3.out]; simp
       have bR := bR6;clear HEV3;go_upto_region 11 with (fail)
       refine wp_region_lit ?_;refine wpList_plain rfl (fun K hK => ?_);go_simp;refine hK _ _ ?_;clear hK K;refine wpList_store_mid rfl 104 (.tmp 2) (.tmp 67) rfl w.heap.size 0 #[.int .i64 0, .string ⟨#[]⟩, .string ⟨#[]⟩, .int .i64 0, .int .i64 0, .int .i64 0] rfl rfl bR.there (by kernel_rfl) (by kernel_rfl) ?_;go_wp2
       refine bodyPost_ret (results_row3 Tryz.results75 _ _ w.heap.size 104 #[.int .i64 0, .string ⟨#[]⟩, .string ⟨#[]⟩, .int .i64 0, .int .i64 0, .int .i64 0] _ rfl (bR.putAll _ rfl) Tryz.underlying104 rfl (by kernel_rfl)) rfl ⟨rfl, HO6.out.putAll (fun h => by omega) _⟩
      | true =>
       have hc2 := HC.out 2 x2 HX2'.out w6 HX6.out;simp at hc2;have lE := bE6.lt;have e2 := bE6.at_ 2;have g2 := bE6.free 2;simp at e2;go_upto_region 13 with (fail)
       have bE7 := bE6.put 2 (.string x2);have O7 : Only [w4.heap.size] w6 (w6.setCell ⟨w4.heap.size, 2, none⟩ (.string x2)) := (Only.refl _ w6).put (fun _ => by simp) _;have HX7 := Hd (HX6.out.step O7 (fun i hi hl => by simp at hi; omega));have HO7 := Hd (HO1.out.trans HX7.out);have HV7 := Hd (O7.blk HV6.out (by simp; omega));have bR7 := O7.blk bR6 (by simp; omega);clear O7 lE e2 g2 bE6 HX6 HO6 HV6 bR6 hc2;generalize (w6.setCell ⟨w4.heap.size, 2, none⟩ (.string x2)) = w7 at *;obtain ⟨oe, hoe⟩ : ∃ x, x = opE kk x3 := ⟨_, rfl⟩;obtain ⟨ok, hok⟩ : ∃ x, x = opK kk x3 := ⟨_, rfl⟩;obtain ⟨on, hon⟩ : ∃ x, x = opN kk x3 := ⟨_, rfl⟩;rw [← hoe, ← hok, ← hon] at HEV3 HOP3;clear hoe hok hon;have RD0 := Hd fun wq (hSw : Only [w4.heap.size] w7 wq) => aI ((hSw.blk HV7.out (by simp; omega)).at_ 0) (HC.out 3 x3 HX3'.out _ (HX7.out.step hSw (fun i hi hl => by simp at hi; omega)));refine rgo (F := [⟨[], [], fun w' => Only [w4.heap.size] w7 w'⟩]) (th1 ((Only.refl [w4.heap.size] w7).drew)) ?_;refine tQ 0 (h := trq 1 0 RD0 (h := tQ 2 (h := tQ 3 (h := tQ 4 (h := trq 5 0 RD0 (h := ?_))))));refine tst (i := 6) fun K hK => ?_;go_simp;refine (HOP3.out _).mono ?_;rintro e w8 ⟨rfl, O8⟩;have bE8 := O8.blk bE7 (by simp);have bR8 := O8.blk bR7 (by simp);have HX8 := Hd (HX7.out.drew.trans O8);have l8 := bE8.lt;have e3 := bE8.at_ 3;have e4 := bE8.at_ 4;have g3 := bE8.free 3;have g4 := bE8.free 4;simp at e3 e4;refine kOut hK (((Only.refl [w4.heap.size] w7).drew).trans (O8.wide (fun i hi => by cases hi))) (h := ?_);clear hK K;refine tQ 7 (h := tQ 8 (h := tQ 9 (h := tQ 10 (h := ?_))));refine tst (i := 11) fun K hK => ?_;go_simp;refine kOut hK (((((Only.refl [w4.heap.size] w7).drew).trans (O8.wide (fun i hi => by cases hi))).put (fun _ => by simp) _).put (fun _ => by simp) _) (h := ?_);clear hK K;refine tQ 12 (h := ?_);refine tdn ?_;have bE : Blk ((w8.setCell ⟨w4.heap.size, 3, none⟩ (.int .i64 ok)).setCell ⟨w4.heap.size, 4, none⟩ (.int .i64 on)) w4.heap.size 104 #[.int .i64 kk, .string x1, .string x2, .int .i64 ok, .int .i64 on, .int .i64 0] := (bE8.put 3 (.int .i64 ok)).put 4 (.int .i64 on);have bR : Blk ((w8.setCell ⟨w4.heap.size, 3, none⟩ (.int .i64 ok)).setCell ⟨w4.heap.size, 4, none⟩ (.int .i64 on)) w.heap.size 104 #[.int .i64 0, .string ⟨#[]⟩, .string ⟨#[]⟩, .int .i64 0, .int .i64 0, .int .i64 0] := (bR8.far (by simp only; omega) _).far (by simp only; omega) _;have HX9 := Hd ((HX8.out.put (p := ⟨w4.heap.size, 3, none⟩) (fun h => by simp only at h; omega) (.int .i64 ok)).put (p := ⟨w4.heap.size, 4, none⟩) (fun h => by simp only at h; omega) (.int .i64 on));have HO9 := Hd (HO1.out.trans HX9.out);clear bE8 bR8 HX8 l8 e3 e4 g3 g4 bE7 bR7 HX7 HO7 HV7 O8 HX9;generalize ((w8.setCell ⟨w4.heap.size, 3, none⟩ (.int .i64 ok)).setCell ⟨w4.heap.size, 4, none⟩ (.int .i64 on)) = w9 at *
       by_cases hoe : oe = 0
       ·subst hoe;obtain rfl : r = ⟨kk, x1, x2, ok, on, true, 0⟩ := by rw [HEV3.out]; simp
        clear HEV3;go_upto_region 16 with (fail)
        refine wp_region_lit ?_;refine wpList_load_mid rfl 104 (.tmp 9) rfl w4.heap.size 0 rfl (#[.int .i64 kk, .string x1, .string x2, .int .i64 ok, .int .i64 on, .int .i64 0] : Array Value).toList _ bE.range Tryz.underlying104 rfl (by kernel_rfl) ?_;refine wpList_store_mid rfl 104 (.tmp 2) (.tmp 88) rfl w.heap.size 0 #[.int .i64 kk, .string x1, .string x2, .int .i64 ok, .int .i64 on, .int .i64 0] rfl rfl bR.there (by kernel_rfl) (by kernel_rfl) ?_;go_wp2
        refine bodyPost_ret (results_row3 Tryz.results75 _ _ w.heap.size 104 #[.int .i64 kk, .string x1, .string x2, .int .i64 ok, .int .i64 on, .int .i64 0] _ rfl (bR.putAll _ rfl) Tryz.underlying104 rfl (by kernel_rfl)) rfl ⟨rfl, HO9.out.putAll (fun h => by omega) _⟩
       ·have hne : (oe != 0) = true := by simpa using hoe
        obtain rfl : r = evNo oe := by rw [HEV3.out]; simp [hoe]
        clear HEV3 hoe;go_upto_region 15 with (fail)
        refine wp_region_lit ?_;refine wpList_plain rfl (fun K hK => ?_);go_simp;refine hK _ _ ?_;clear hK K;refine wpList_plain rfl (fun K hK => ?_);go_simp;refine hK _ _ ?_;clear hK K;refine wpList_store_mid rfl 104 (.tmp 2) (.tmp 86) rfl w.heap.size 0 #[.int .i64 0, .string ⟨#[]⟩, .string ⟨#[]⟩, .int .i64 0, .int .i64 0, .int .i64 0] rfl rfl bR.there (by kernel_rfl) (by kernel_rfl) ?_;go_wp2
        refine bodyPost_ret (results_row3 Tryz.results75 _ _ w.heap.size 104 #[.int .i64 0, .string ⟨#[]⟩, .string ⟨#[]⟩, .int .i64 0, .int .i64 0, .int .i64 0] _ rfl (bR.putAll _ rfl) Tryz.underlying104 rfl (by kernel_rfl)) rfl ⟨rfl, HO9.out.putAll (fun h => by omega) _⟩
   ·have hne : ((n : Int) != wn) = true := by simpa using hnn
    obtain rfl : r = evNo 5 := by
     rw [HEV.out, if_neg];rintro ⟨-, h, -⟩;exact hnn h
    have bR := bR3;clear HEV hnn;go_upto_region 6 with (fail)
    refine wp_region_lit ?_;refine wpList_plain rfl (fun K hK => ?_);go_simp;refine hK _ _ ?_;clear hK K;refine wpList_store_mid rfl 104 (.tmp 2) (.tmp 49) rfl w.heap.size 0 #[.int .i64 0, .string ⟨#[]⟩, .string ⟨#[]⟩, .int .i64 0, .int .i64 0, .int .i64 0] rfl rfl bR.there (by kernel_rfl) (by kernel_rfl) ?_;go_wp2
    refine bodyPost_ret (results_row3 Tryz.results75 _ _ w.heap.size 104 #[.int .i64 0, .string ⟨#[]⟩, .string ⟨#[]⟩, .int .i64 0, .int .i64 0, .int .i64 0] _ rfl (bR.putAll _ rfl) Tryz.underlying104 rfl (by kernel_rfl)) rfl ⟨rfl, HO3.out.putAll (fun h => by omega) _⟩

end Go.Proofs.YthdofaoamljkfaaGreatDoor
namespace Go.Proofs.YthdofaoamljkfaaGreatDoor
open Go.RowKit
open Go.Lib hiding intOf
theorem pv_may {l : List UInt8} (h : pvE l = 0) : mayB (pvK l) (pvN l) = true ∧ (pvK l = 0 ∨ pvK l = 1 ∨ pvK l = 2) := by
 unfold pvE at h;unfold pvK pvN
 by_cases h1 : l = [110, 105, 108]
 ·rw [if_pos h1, if_pos h1]; exact ⟨by decide, by decide⟩
 ·rw [if_neg h1, if_neg h1];rw [if_neg h1] at h
  by_cases h2 : l = [63]
  ·rw [if_pos h2, if_pos h2]; exact ⟨by decide, by decide⟩
  ·rw [if_neg h2, if_neg h2];rw [if_neg h2] at h;rw [if_pos h, if_pos h];exact ⟨by simp [mayB], by simp⟩
theorem ev_may (s : ByteArray) (h : (evParse s).is = true) : (evParse s).e = 0 ∧ evOk (evParse s).k (evParse s).s (evParse s).y (evParse s).vk (evParse s).vn = true := by
 have key : ∀ r : EvR, r = evParse s → r.is = true → r.e = 0 ∧ evOk r.k r.s r.y r.vk r.vn = true := by
  intro r hr his;unfold evParse at hr
  by_cases hb : badL (by_ s) = true
  ·rw [if_pos hb] at hr;exact absurd his (by rw [hr]; simp [evNo])
  rw [if_neg hb] at hr
  cases hws : textsOf s with
  | nil =>
   rw [hws] at hr;exact absurd his (by rw [hr]; simp [evOf, evNo])
  | cons w0 rest =>
   rw [hws] at hr;unfold evOf at hr;dsimp only at hr
   by_cases hc : kOk (wK w0) = true ∧ ((w0 :: rest).length : Int) = (if kO (wK w0) = true then 4 else 2) ∧ isName ((w0 :: rest).getD 1 ⟨#[]⟩) = true
   ·rw [if_pos hc] at hr;obtain ⟨c1, c2, c3⟩ := hc
    by_cases c4 : kO (wK w0) = true
    ·rw [if_pos c4] at hr
     by_cases c5 : isName ((w0 :: rest).getD 2 ⟨#[]⟩) = true
     ·rw [if_pos c5] at hr
      by_cases c6 : opE (wK w0) ((w0 :: rest).getD 3 ⟨#[]⟩) = 0
      ·rw [if_pos c6] at hr;subst hr;refine ⟨rfl, ?_⟩;dsimp only;have c7 : pvE (by_ ((w0 :: rest).getD 3 ⟨#[]⟩)) = 0 := by
        unfold opE at c6
        by_cases hz : pvE (by_ ((w0 :: rest).getD 3 ⟨#[]⟩)) = 0
        ·exact hz
        ·rw [if_pos hz] at c6; exact absurd c6 hz
       obtain ⟨m1, m2⟩ := pv_may c7;have hoK : opK (wK w0) ((w0 :: rest).getD 3 ⟨#[]⟩) = pvK (by_ ((w0 :: rest).getD 3 ⟨#[]⟩)) := by unfold opK; rw [c6]; rfl
       have hoN : opN (wK w0) ((w0 :: rest).getD 3 ⟨#[]⟩) = pvN (by_ ((w0 :: rest).getD 3 ⟨#[]⟩)) := by unfold opN; rw [c6]; rfl
       rw [hoK, hoN];unfold opE at c6;rw [if_neg (by rw [c7]; simp)] at c6;unfold evOk;rw [c1, c3, c4, c5, m1]
       by_cases h3 : wK w0 = 3
       ·have : pvK (by_ ((w0 :: rest).getD 3 ⟨#[]⟩)) = 1 := by
         rcases m2 with e | e | e
         ·rw [if_neg (by rw [e]; omega), if_pos ⟨h3, e⟩] at c6; exact absurd c6 (by decide)
         ·exact e
         ·rw [if_pos ⟨h3, e⟩] at c6; exact absurd c6 (by decide)
        rw [this];simp
       ·simp [h3]
      ·rw [if_neg c6] at hr;exact absurd his (by rw [hr]; simp [evNo])
     ·rw [if_neg c5] at hr;exact absurd his (by rw [hr]; simp [evNo])
    ·rw [if_neg c4] at hr;subst hr;refine ⟨rfl, ?_⟩;dsimp only;have c5 : kO (wK w0) = false := by simpa using c4
     unfold evOk;rw [c1, c3, c5]
     rfl
   ·rw [if_neg hc] at hr;exact absurd his (by rw [hr]; simp [evNo])
 exact key _ rfl h
end Go.Proofs.YthdofaoamljkfaaGreatDoor
namespace Go.Proofs.YthdofaoamljkfaaGreatDoor
open Go.RowKit
structure Ev6 where
 k : Int
 s : ByteArray
 y : ByteArray
 vk : Int
 vn : Int
 ln : Int
def Ev6.c (x : Ev6) : List Value := [.int .i64 x.k, .string x.s, .string x.y, .int .i64 x.vk, .int .i64 x.vn, .int .i64 x.ln]
def logC (l : List Ev6) : List Value := l.flatMap Ev6.c
theorem logC_len (l : List Ev6) : (logC l).length = l.length * 6 := by
 induction l with
 | nil => rfl
 | cons x l ih => simp only [logC, List.flatMap_cons, List.length_append, List.length_cons] at ih ⊢; rw [ih]; simp [Ev6.c]; omega
theorem logC_snoc (l : List Ev6) (x : Ev6) : logC (l ++ [x]) = logC l ++ x.c := by simp [logC]
theorem logC_get : ∀ (l : List Ev6) (i : Nat) (x : Ev6), l[i]? = some x → ∀ j, j < 6 → (logC l)[i * 6 + j]? = x.c[j]?
 | [], i, x, h, _, _ => by simp at h
 | x0 :: l, 0, x, h, j, hj => by
  simp at h;subst h;simp only [logC, List.flatMap_cons];rw [List.getElem?_append_left (by simp [Ev6.c]; omega)];simp
 | x0 :: l, i + 1, x, h, j, hj => by
  have := logC_get l i x (by simpa using h) j hj;simp only [logC, List.flatMap_cons] at this ⊢;rw [List.getElem?_append_right (by simp [Ev6.c]; omega)];rw [← this]
  congr 1
  simp [Ev6.c];omega
theorem info_event : (Tryz.prog.info? 104).map (fun i => (i.zero, i.size, i.bytes)) = some (some (.agg #[.int .i64 0, .string ⟨#[]⟩, .string ⟨#[]⟩, .int .i64 0, .int .i64 0, .int .i64 0]), 6, 64) := by kernel_rfl
structure EvAt (w : World) (b o : Nat) (x : Ev6) : Prop where
 c0 : w.cell? ⟨b, o, none⟩ = some (.int .i64 x.k)
 c1 : w.cell? ⟨b, o + 1, none⟩ = some (.string x.s)
 c2 : w.cell? ⟨b, o + 2, none⟩ = some (.string x.y)
 c3 : w.cell? ⟨b, o + 3, none⟩ = some (.int .i64 x.vk)
 c4 : w.cell? ⟨b, o + 4, none⟩ = some (.int .i64 x.vn)
 c5 : w.cell? ⟨b, o + 5, none⟩ = some (.int .i64 x.ln)
theorem EvAt.only {S : List Nat} {w w' : World} {b o : Nat} {x : Ev6} (h : EvAt w b o x) (ho : Only S w w') (hb : b < w.heap.size) (hs : b ∉ S) : EvAt w' b o x :=
 ⟨(ho.cell (p := ⟨b, o, none⟩) hb hs).trans h.c0, (ho.cell (p := ⟨b, o + 1, none⟩) hb hs).trans h.c1, (ho.cell (p := ⟨b, o + 2, none⟩) hb hs).trans h.c2, (ho.cell (p := ⟨b, o + 3, none⟩) hb hs).trans h.c3,
  (ho.cell (p := ⟨b, o + 4, none⟩) hb hs).trans h.c4, (ho.cell (p := ⟨b, o + 5, none⟩) hb hs).trans h.c5⟩
theorem row_ev {w : World} {B : Nat} {A : Option Addr} {l : List Ev6} (h : Row w B A (logC l)) {k : Nat} {x : Ev6} (hk : l[k]? = some x) : ∃ b off, A = some ⟨b, off, none⟩ ∧ b < B ∧ b < w.heap.size ∧ EvAt w b (off + k * 6) x := by
 have hlt := (List.getElem?_eq_some_iff.1 hk).1;obtain ⟨b, off, rfl, h1, h2, hc⟩ := h.open_ (k := k * 6) (by rw [logC_len]; omega);have g := logC_get l k x hk;refine ⟨b, off, rfl, h1, h2, ⟨?_, ?_, ?_, ?_, ?_, ?_⟩⟩
 ·exact hc (k * 6) _ (g 0 (by omega))
 ·rw [Nat.add_assoc]; exact hc _ _ (g 1 (by omega))
 ·rw [Nat.add_assoc]; exact hc _ _ (g 2 (by omega))
 ·rw [Nat.add_assoc]; exact hc _ _ (g 3 (by omega))
 ·rw [Nat.add_assoc]; exact hc _ _ (g 4 (by omega))
 ·rw [Nat.add_assoc]; exact hc _ _ (g 5 (by omega))
open Go.Lib hiding intOf
attribute [local go_sem ↓] Go.wp_at_zero Go.wp_at_succ
def stepE (l : List Ev6) (row : ByteArray) : Int := if (evParse row).is = true then (if l.length = 1000 then 7 else 0) else (evParse row).e
def stepL (l : List Ev6) (num : Int) (row : ByteArray) : List Ev6 := if (evParse row).is = true ∧ l.length ≠ 1000 then l ++ [⟨(evParse row).k, (evParse row).s, (evParse row).y, (evParse row).vk, (evParse row).vn, num⟩] else l
theorem wrong_any (num : Int) (row : ByteArray) (Bl base : Nat) (V : Value) (l : List Ev6) (w : World) (hs : row.size ≤ 65535) (hT : UTabs w) (hM : MLen w) (hV : Verbs w)
  (hB : Blk w Bl 77 #[V]) (hown : w.ownsRow base 104 6 V l.length (logC l)) (hbase : base ≤ w.heap.size) (hl : l.length ≤ 1000) :
  Calls Tryz.prog 74 #[.int .i64 num, .string row, .pointer (some ⟨Bl, 0, none⟩)] w fun e w' => e = .returned (.int .i64 (stepE l row)) ∧
   ∃ V', Blk w' Bl 77 #[V'] ∧ w'.ownsRow base 104 6 V' (stepL l num row).length (logC (stepL l num row)) ∧ Only (Bl :: V.ownBlock.toList) w w' := by
 obtain ⟨i0, hi, hz0, hz1, hz2⟩ := info_parts info_event;have HP := Hd (evparse_any row w hs hT hM hV);have HM := Hd (ev_may row);unfold stepE stepL;unfold evRV at HP;generalize evParse row = r at *;obtain ⟨k, s, y, vk, vn, is, er⟩ := r;dsimp only at HP HM ⊢;clear hT hM hV hs;obtain ⟨A, c, hVs, hc1, hc2, hcl, -⟩ := own_row hown;have hapart := own_apart hown hB (by decide);subst hVs;have HOWN := Hd hown;have HBL := Hd hB;generalize hm : l.length = m at *;clear hown hB hcl;go_enter Tryz.func74, Tryz.ntmps74;go_wp2_with fail
 refine (HP.out).mono ?_;rintro e w1 ⟨rfl, O1⟩;have bE := Blk.made w1 104 #[.int .i64 k, .string s, .string y, .int .i64 vk, .int .i64 vn, .int .i64 0];have O2 : Only [] w (w1.alloc (.cells #[.int .i64 k, .string s, .string y, .int .i64 vk, .int .i64 vn, .int .i64 0] 104)) := O1.alloc _;have bB := O2.blk HBL.out (by simp);have HO1 := Hd O1;have HO2 := Hd O2;have HOWN2 := Hd (own_only HOWN.out O2 (by simp));have hsz := O1.size;clear O1 O2
 cases is with
 | false =>
  have hcase : er = 0 ∨ (er != 0) = true := by
   by_cases h : er = 0
   ·exact .inl h
   ·exact .inr (by simpa using h)
  rcases hcase with rfl | hcase
  all_goals
   go_wp2
   go_ret
   refine ⟨by simp, _, bB, ?_, HO2.out.wide (fun i hi => by cases hi)⟩
   first
   | exact HOWN2.out
   | (rw [if_neg (by simp), hm]; exact HOWN2.out)
 | true =>
  obtain ⟨rfl, -⟩ := HM.out rfl;have lB := bB.lt;have cB := bB.at_ 0;simp at cB lB
  by_cases h1000 : m = 1000
  ·subst h1000;go_wp2
   go_ret
   refine ⟨by simp, _, bB, ?_, HO2.out.wide (fun i hi => by cases hi)⟩
   first
   | exact HOWN2.out
   | (rw [if_neg (by simp [hm]), hm]; exact HOWN2.out)
  ·have hne : ((m : Int) == 1000) = false := by simp; omega
   have bE5 := bE.put 5 (.int .i64 num);go_upto_region 7 with (fail)
   have O3 : Only [] w (w1.alloc (.cells #[.int .i64 k, .string s, .string y, .int .i64 vk, .int .i64 vn, .int .i64 num] 104)) := HO1.out.alloc _;have bE3 := Blk.made w1 104 #[.int .i64 k, .string s, .string y, .int .i64 vk, .int .i64 vn, .int .i64 num];have bB3 := O3.blk HBL.out (by simp);have hown3 := own_only HOWN.out O3 (by simp);clear bE5 bE bB HO2 HOWN2 lB cB HO1;generalize (w1.alloc (.cells #[.int .i64 k, .string s, .string y, .int .i64 vk, .int .i64 vn, .int .i64 num] 104)) = w2 at *;generalize w1.heap.size = ge at *;have HO3 := Hd O3;have HOWN3 := Hd hown3;have HB3 := Hd bB3;have hsz3 := O3.size;have lB := bB3.lt;have cB := bB3.at_ 0;have lE := bE3.lt;have e0 := bE3.at_ 0;have e1 := bE3.at_ 1;have e2 := bE3.at_ 2;have e3 := bE3.at_ 3;have e4 := bE3.at_ 4;have e5 := bE3.at_ 5;simp at cB e0 e1 e2 e3 e4 e5;clear O3 hown3 bB3 bE3;go_wp2_with (
    at_builtin
    refine wpList_append_row _ rfl (.tmp 29) (.tmp 31) _ rfl base 104 i0 _ 6 64 Tryz.underlying77 hi hz0 hz1 hz2 rfl (by omega) _ m (logC l) rfl (own_only HOWN3.out ((Only.refl [] w2).alloc _) (by simp)) (w2.heap.size + 1) (some ⟨w2.heap.size, 0, none⟩) 1 1 [.int .i64 k, .string s, .string y, .int .i64 vk, .int .i64 vn, .int .i64 num] (by rfl) (by rfl) (row_lit w2 104 #[.int .i64 k, .string s, .string y, .int .i64 vk, .int .i64 vn, .int .i64 num]) (by intro u hu; simp at hu; rcases hu with rfl | rfl | rfl | rfl | rfl | rfl <;> rfl) (by unfold maxLen; omega) (by omega) (by simp; omega) ?_;intro v4 w4 hown4 hgrow hat;obtain ⟨A4, c4, rfl, -, -, -, -⟩ := own_row hown4;have b4 := (only_grown hgrow).blk (HB3.out.alloc (.cells #[.int .i64 k, .string s, .string y, .int .i64 vk, .int .i64 vn, .int .i64 num] 104)) hapart;have O4 := ((HO3.out.alloc (.cells #[.int .i64 k, .string s, .string y, .int .i64 vk, .int .i64 vn, .int .i64 num] 104)).wide (T := (Value.slice A m c).ownBlock.toList) (fun i hi => by cases hi)).step (only_grown hgrow) (fun i hi _ => hi);have HB4 := Hd b4;have HO4 := Hd O4;have HOWN4 := Hd hown4;have HAT := Hd hat;have l4 := b4.lt;have d4 := b4.at_ 0;have g4 := b4.free 0;simp at d4;clear b4 O4 hown4 hat hgrow)
   go_ret
   have hap4 := own_apart HOWN4.out HB4.out (by decide);refine ⟨rfl, _, HB4.out.put 0 _, ?_, (HO4.out.wide (fun i hi _ => by simp [hi])).put (p := ⟨Bl, 0, none⟩) (fun _ => by simp) _⟩;have h5 := own_only HOWN4.out ((Only.refl [Bl] w4).put (p := ⟨Bl, 0, none⟩) (fun _ => by simp) (.slice A4 (m + 1) c4)) (fun g hg hm => by
    simp at hm;subst hm;exact hap4 (by rw [hg]; simp))
   rw [logC_snoc];exact h5
end Go.Proofs.YthdofaoamljkfaaGreatDoor
