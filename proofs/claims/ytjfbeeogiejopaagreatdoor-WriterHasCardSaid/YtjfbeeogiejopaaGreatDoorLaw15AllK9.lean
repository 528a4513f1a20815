/- Contracts of the package event: Parse. -/
import Derived.Test.YtjfbeeogiejopaaGreatDoorLaw15AllK2
import Derived.Test.YtjfbeeogiejopaaGreatDoorLaw15AllK5
import Derived.Test.YtjfbeeogiejopaaGreatDoorLaw15AllK6
import Derived.Test.YtjfbeeogiejopaaGreatDoorLaw15AllK8
import Derived.Deep.CutBlock
import Derived.Deep.DeepCutAuto
set_option linter.unusedVariables false
set_option linter.unusedSimpArgs false
namespace Go.Proofs.YtjfbeeogiejopaaGreatDoor
open Go.RowKit
open Go.Lib hiding intOf
attribute [local go_sem ↓] Go.wp_at_zero Go.wp_at_succ
/-- What a line is read as: an event, whether it is one, an error. -/
structure EvR where
 k : Int
 s : ByteArray
 y : ByteArray
 vk : Int
 vn : Int
 is : Bool
 e : Int
def evNo (e : Int) : EvR := ⟨0, ⟨#[]⟩, ⟨#[]⟩, 0, 0, false, e⟩
def evOf (ws : List ByteArray) : EvR :=
 match ws with
 | [] => evNo 0
 | w0 :: _ =>
  if kOk (wK w0) = true ∧ (ws.length : Int) = (if kO (wK w0) = true then 4 else 2) ∧ isName (ws.getD 1 ⟨#[]⟩) = true then
   (if kO (wK w0) = true then
    (if isName (ws.getD 2 ⟨#[]⟩) = true then
     (if opE (wK w0) (ws.getD 3 ⟨#[]⟩) = 0 then ⟨wK w0, ws.getD 1 ⟨#[]⟩, ws.getD 2 ⟨#[]⟩, opK (wK w0) (ws.getD 3 ⟨#[]⟩), opN (wK w0) (ws.getD 3 ⟨#[]⟩), true, 0⟩ else evNo (opE (wK w0) (ws.getD 3 ⟨#[]⟩)))
    else evNo 5)
   else ⟨wK w0, ws.getD 1 ⟨#[]⟩, ⟨#[]⟩, 0, 0, true, 0⟩)
  else evNo 5
def evParse (s : ByteArray) : EvR := if badL (by_ s) = true then evNo 5 else evOf (textsOf s)
def evRV (r : EvR) : Value := .tuple #[.agg #[.int .i64 r.k, .string r.s, .string r.y, .int .i64 r.vk, .int .i64 r.vn, .int .i64 0], .bool r.is, .int .i64 r.e]
theorem wordsV_at (s : ByteArray) : ∀ (ps : List (Nat × Nat)) (i : Nat) (x : ByteArray), (ps.map fun p => s.extract p.1 p.2)[i]? = some x → (wordsV s ps)[i * 2]? = some (.string x)
 | [], i, x, h => by simp at h
 | p :: ps, 0, x, h => by
  simp at h
  subst h
  rfl
 | p :: ps, i + 1, x, h => by
  have := wordsV_at s ps i x (by simpa using h)
  unfold wordsV at this ⊢
  rw [List.flatMap_cons, show (i + 1) * 2 = i * 2 + (wordV s p).length by simp [wordV]; omega]
  rw [List.getElem?_append_right (by omega), Nat.add_sub_cancel]
  exact this
theorem texts_size (s : ByteArray) : ∀ x ∈ textsOf s, x.size ≤ s.size := by
 intro x hx
 unfold textsOf at hx
 obtain ⟨p, -, rfl⟩ := List.mem_map.1 hx
 rw [ByteArray.size_extract]
 omega
set_option maxRecDepth 10000 in
set_option maxHeartbeats 8000000 in
theorem evparse_any (s : ByteArray) (w : World) (hs : s.size ≤ 65535) (hT : UTabs w) (hM : MLen w) (hV : Verbs w) :
  Calls Tryz.prog 100 #[.string s] w fun e w' => e = .returned (evRV (evParse s)) ∧ Only [] w w' := by
 have HWS := Lib.hid (fun w' (hO : Only [] w w') => words_any s w' hs (hT.only hO) (hM.only hO))
 have HKD := Lib.hid (fun x w' (hO : Only [] w w') => ofWord_any x w' (hV.only hO))
 have HIS := Lib.hid (fun x w' (hx : x ∈ textsOf s) (hO : Only [] w w') => is_any x w' (by have := texts_size s x hx; omega) (hT.only hO))
 have HWN := Lib.hid (fun k kw ko w' => vwords_any k kw ko w')
 have HOP := Lib.hid (fun k x w' (hx : x ∈ textsOf s) => operand_any k x w' (by have := texts_size s x hx; omega))
 obtain ⟨r, hr⟩ : ∃ r, r = evParse s := ⟨_, rfl⟩
 rw [← hr]
 unfold evParse at hr
 have HO := Lib.hid ((Only.refl [] w).alloc (.cells #[.int .i64 0, .string ⟨#[]⟩, .string ⟨#[]⟩, .int .i64 0, .int .i64 0, .int .i64 0] 128))
 have HB := Lib.hid (Blk.made w 128 #[.int .i64 0, .string ⟨#[]⟩, .string ⟨#[]⟩, .int .i64 0, .int .i64 0, .int .i64 0])
 have HWL := Lib.hid (show (wordsOf (by_ s)).length = (textsOf s).length by simp [textsOf])
 have HWV := Lib.hid (fun i x h => wordsV_at s (wordsOf (by_ s)) i x h)
 have HSL : Hid ((textsOf s).length ≤ 65536) := Lib.hid (by
  rw [← HWL.out]
  have := spans_len (codeL (by_ s)) 0 none
  have h2 := ahead_len (by_ s)
  rw [code_len] at this
  have h3 := by_length s
  unfold wordsOf
  omega)
 have HRB := Lib.hid hr
 clear hr hT hM hV hs
 go_enter Tryz.func100, Tryz.ntmps100
 go_wp2_with fail
 refine (HWS.out _ HO.out).mono ?_
 rintro e w1 ⟨O1, ⟨hb, rfl⟩ | ⟨hb, V, rfl, hown⟩⟩
 ·have hr : r = evNo 5 := by rw [HRB.out, if_pos hb]
  have bR := O1.blk HB.out (by simp)
  have HO1 := Lib.hid (HO.out.trans O1)
  clear O1 hb HRB
  subst hr
  have h0 := HO1.out.size
  go_upto_region 3 with (fail)
  refine wp_region_lit ?_
  refine wpList_plain rfl (fun K hK => ?_)
  go_simp
  refine hK _ _ ?_
  clear hK K
  refine wpList_plain rfl (fun K hK => ?_)
  go_simp
  refine hK _ _ ?_
  clear hK K
  refine wpList_store_mid rfl 128 (.tmp 2) (.tmp 22) rfl w.heap.size 0 #[.int .i64 0, .string ⟨#[]⟩, .string ⟨#[]⟩, .int .i64 0, .int .i64 0, .int .i64 0] rfl rfl bR.there (by kernel_rfl) (by kernel_rfl) ?_
  go_wp2
  refine bodyPost_ret (results_row3 Tryz.results100 _ _ w.heap.size 128 #[.int .i64 0, .string ⟨#[]⟩, .string ⟨#[]⟩, .int .i64 0, .int .i64 0, .int .i64 0] _ rfl (bR.putAll _ rfl) Tryz.underlying128 rfl (by kernel_rfl)) rfl ⟨rfl, HO1.out.putAll (fun h => by omega) _⟩
 have hr : r = evOf (textsOf s) := by rw [HRB.out, if_neg (by rw [hb]; simp)]
 rw [HWL.out] at hown
 obtain ⟨A, c, rfl, hc1, hc2, -, hrow⟩ := own_row hown
 have bR := O1.blk HB.out (by simp)
 have HO1 := Lib.hid (HO.out.trans O1)
 have HWV2 : Hid (∀ i x, (textsOf s)[i]? = some x → (wordsV s (wordsOf (by_ s)))[i * 2]? = some (.string x)) := Lib.hid (fun i x h => HWV.out i x h)
 have HWL2 : Hid ((wordsV s (wordsOf (by_ s))).length = (textsOf s).length * 2) := Lib.hid (by rw [wordsV_len, HWL.out]; omega)
 have HROW := Lib.hid hrow
 clear O1 hb HRB hown HWL HWV hrow
 generalize wordsV s (wordsOf (by_ s)) = cells at *
 generalize textsOf s = ws at *
 have h0 := HO1.out.size
 have hsl := HSL.out
 cases hws : ws with
 | nil =>
  subst hws
  have hr : r = evNo 0 := hr
  subst hr
  clear HROW HWV2 HWL2
  go_upto_region 3 with (fail)
  refine wp_region_lit ?_
  refine wpList_plain rfl (fun K hK => ?_)
  go_simp
  refine hK _ _ ?_
  clear hK K
  refine wpList_plain rfl (fun K hK => ?_)
  go_simp
  refine hK _ _ ?_
  clear hK K
  refine wpList_store_mid rfl 128 (.tmp 2) (.tmp 22) rfl w.heap.size 0 #[.int .i64 0, .string ⟨#[]⟩, .string ⟨#[]⟩, .int .i64 0, .int .i64 0, .int .i64 0] rfl rfl bR.there (by kernel_rfl) (by kernel_rfl) ?_
  go_wp2
  refine bodyPost_ret (results_row3 Tryz.results100 _ _ w.heap.size 128 #[.int .i64 0, .string ⟨#[]⟩, .string ⟨#[]⟩, .int .i64 0, .int .i64 0, .int .i64 0] _ rfl (bR.putAll _ rfl) Tryz.underlying128 rfl (by kernel_rfl)) rfl ⟨rfl, HO1.out.putAll (fun h => by omega) _⟩
 | cons w0 rest =>
  rw [← hws]
  obtain ⟨n, hn⟩ : ∃ n, n = ws.length := ⟨_, rfl⟩
  have hn1 : 1 ≤ n := by rw [hn, hws]; simp
  rw [← hn] at HWL2 hsl hc1 ⊢
  obtain ⟨b, off, rfl, -, hbw, hcell⟩ := HROW.out.open_ (k := 0) (by rw [HWL2.out]; omega)
  have HC : Hid (∀ i x, ws[i]? = some x → ∀ w', Only [] w1 w' → w'.cell? ⟨b, off + i * 2, none⟩ = some (.string x)) := Lib.hid (fun i x hi w' hO => (hO.cell (p := ⟨b, off + i * 2, none⟩) hbw (by simp)).trans (hcell _ _ (HWV2.out i x hi)))
  have hc0 := HC.out 0 w0 (by rw [hws]; rfl) w1 (Only.refl [] w1)
  simp at hc0
  have hr : r = evOf ws := hr
  have hmem0 : w0 ∈ ws := by rw [hws]; simp
  have HEV : Hid (r = if kOk (wK w0) = true ∧ (n : Int) = (if kO (wK w0) = true then 4 else 2) ∧ isName (ws.getD 1 ⟨#[]⟩) = true then
   (if kO (wK w0) = true then
    (if isName (ws.getD 2 ⟨#[]⟩) = true then
     (if opE (wK w0) (ws.getD 3 ⟨#[]⟩) = 0 then ⟨wK w0, ws.getD 1 ⟨#[]⟩, ws.getD 2 ⟨#[]⟩, opK (wK w0) (ws.getD 3 ⟨#[]⟩), opN (wK w0) (ws.getD 3 ⟨#[]⟩), true, 0⟩ else evNo (opE (wK w0) (ws.getD 3 ⟨#[]⟩)))
    else evNo 5)
   else ⟨wK w0, ws.getD 1 ⟨#[]⟩, ⟨#[]⟩, 0, 0, true, 0⟩)
  else evNo 5) := Lib.hid (by rw [hr, hws, hn, hws]; rfl)
  have HN := Lib.hid hn
  clear hr hws hcell HROW HWV2 HWL2 hn hmem0
  have HK0 := Lib.hid (HKD.out w0 w1 HO1.out)
  obtain ⟨kk, hkk⟩ : ∃ x, x = wK w0 := ⟨_, rfl⟩
  rw [← hkk] at HEV HK0
  obtain ⟨kw, hkw⟩ : ∃ x, x = kW kk := ⟨_, rfl⟩
  obtain ⟨ko, hko⟩ : ∃ x, x = kO kk := ⟨_, rfl⟩
  obtain ⟨is, his⟩ : ∃ x, x = kOk kk := ⟨_, rfl⟩
  rw [← hkw, ← hko, ← his] at HK0
  rw [← hko, ← his] at HEV
  clear hkk hkw hko his HKD
  have h01 : (0 : Int) < (n : Int) := by omega
  go_wp2_with fail
  refine (HK0.out).mono ?_
  rintro e w2 ⟨rfl, O2⟩
  have HX2 := Lib.hid (O2.alloc (.cells #[.int .i64 kk, .string kw, .bool ko] 151))
  have HV2 := Lib.hid (Blk.made w2 151 #[.int .i64 kk, .string kw, .bool ko])
  have bR2 := O2.blk bR (by simp)
  have HR2 := Lib.hid (bR2.alloc (.cells #[.int .i64 kk, .string kw, .bool ko] 151))
  have hsz2 := O2.size
  clear O2 hc0 HK0
  obtain ⟨wn, hwn⟩ : ∃ x : Int, x = if ko = true then 4 else 2 := ⟨_, rfl⟩
  have HW3 := Lib.hid (HWN.out kk kw ko (w2.alloc (.cells #[.int .i64 kk, .string kw, .bool ko] 151)))
  rw [← hwn] at HEV HW3
  have HWNN := Lib.hid hwn
  have HOX := Lib.hid (HO1.out.trans HX2.out)
  clear hwn
  cases is with
  | false =>
   obtain rfl : r = evNo 5 := by rw [HEV.out]; simp
   have bR := HR2.out
   clear HEV
   go_upto_region 6 with (fail)
   refine wp_region_lit ?_
   refine wpList_plain rfl (fun K hK => ?_)
   go_simp
   refine hK _ _ ?_
   clear hK K
   refine wpList_store_mid rfl 128 (.tmp 2) (.tmp 49) rfl w.heap.size 0 #[.int .i64 0, .string ⟨#[]⟩, .string ⟨#[]⟩, .int .i64 0, .int .i64 0, .int .i64 0] rfl rfl bR.there (by kernel_rfl) (by kernel_rfl) ?_
   go_wp2
   refine bodyPost_ret (results_row3 Tryz.results100 _ _ w.heap.size 128 #[.int .i64 0, .string ⟨#[]⟩, .string ⟨#[]⟩, .int .i64 0, .int .i64 0, .int .i64 0] _ rfl (bR.putAll _ rfl) Tryz.underlying128 rfl (by kernel_rfl)) rfl ⟨rfl, HOX.out.putAll (fun h => by omega) _⟩
  | true =>
   go_wp2_with fail
   refine (HW3.out).mono ?_
   rintro e w3 ⟨rfl, O3⟩
   have HX3 := Lib.hid (HX2.out.trans O3)
   have HO3 := Lib.hid (HO1.out.trans HX3.out)
   have bR3 := O3.blk HR2.out (by simp)
   have HV3 := Lib.hid (O3.blk HV2.out (by simp))
   have hsz3 := O3.size
   rw [World.size_alloc] at hsz3
   clear O3 HW3 HOX
   by_cases hnn : (n : Int) = wn
   ·subst hnn
    have hko : (ko = false ∧ n = 2) ∨ (ko = true ∧ n = 4) := by
     have := HWNN.out
     cases ko
     ·left; simp at this; exact ⟨rfl, by omega⟩
     ·right; simp at this; exact ⟨rfl, by omega⟩
    have h11 : (1 : Int) < (n : Int) := by omega
    obtain ⟨x1, hx1⟩ : ∃ x1, ws[1]? = some x1 := ⟨_, List.getElem?_eq_getElem (by rw [← HN.out]; omega)⟩
    have HX1 := Lib.hid hx1
    have HG1 := Lib.hid (show ws.getD 1 ⟨#[]⟩ = x1 by simp [List.getD_eq_getElem?_getD, hx1])
    have hc1 := HC.out 1 x1 hx1 w3 HX3.out
    simp at hc1
    have HS1 := Lib.hid (HIS.out x1 w3 (List.mem_of_getElem? hx1) HO3.out)
    rw [HG1.out] at HEV
    have HKO := Lib.hid hko
    obtain ⟨ns, hns⟩ : ∃ x, x = isName x1 := ⟨_, rfl⟩
    rw [← hns] at HEV HS1
    clear hx1 hns hko
    go_wp2_with fail
    refine (HS1.out).mono ?_
    rintro e w4 ⟨rfl, O4⟩
    have HX4 := Lib.hid (HX3.out.trans O4)
    have HO4 := Lib.hid (HO1.out.trans HX4.out)
    have bR := O4.blk bR3 (by simp)
    have HV4 := Lib.hid (O4.blk HV3.out (by simp))
    have hsz4 := O4.size
    clear O4 HS1 hc1 HV3 HX3 HO3 bR3
    cases ns with
    | false =>
     obtain rfl : r = evNo 5 := by rw [HEV.out]; simp
     clear HEV
     go_upto_region 6 with (fail)
     refine wp_region_lit ?_
     refine wpList_plain rfl (fun K hK => ?_)
     go_simp
     refine hK _ _ ?_
     clear hK K
     refine wpList_store_mid rfl 128 (.tmp 2) (.tmp 49) rfl w.heap.size 0 #[.int .i64 0, .string ⟨#[]⟩, .string ⟨#[]⟩, .int .i64 0, .int .i64 0, .int .i64 0] rfl rfl bR.there (by kernel_rfl) (by kernel_rfl) ?_
     go_wp2
     refine bodyPost_ret (results_row3 Tryz.results100 _ _ w.heap.size 128 #[.int .i64 0, .string ⟨#[]⟩, .string ⟨#[]⟩, .int .i64 0, .int .i64 0, .int .i64 0] _ rfl (bR.putAll _ rfl) Tryz.underlying128 rfl (by kernel_rfl)) rfl ⟨rfl, HO4.out.putAll (fun h => by omega) _⟩
    | true =>
     have HEV2 : Hid (r = (if ko = true then
       (if isName (ws.getD 2 ⟨#[]⟩) = true then
        (if opE kk (ws.getD 3 ⟨#[]⟩) = 0 then ⟨kk, x1, ws.getD 2 ⟨#[]⟩, opK kk (ws.getD 3 ⟨#[]⟩), opN kk (ws.getD 3 ⟨#[]⟩), true, 0⟩ else evNo (opE kk (ws.getD 3 ⟨#[]⟩)))
       else evNo 5)
      else ⟨kk, x1, ⟨#[]⟩, 0, 0, true, 0⟩)) := Lib.hid (by rw [HEV.out]; simp)
     clear HEV
     go_upto_region 7 with (fail)
     refine wp_region_noPanic ?_
     refine wp_region_timed (F := [⟨[], [], fun w' => Only [] w4 w'⟩]) (by kernel_rfl) (timed_holds ((Only.refl [] w4).drew) (timed_nil)) ?_
     refine tpu (i := 0) (v := ?_) ?_ ?_
     rotate_left
     ·(intro w; go_simp; try with_reducible rfl)
     try simp only [Act.put, tdy]
     refine trd (i := 1) (v := ?_) 0 ?_ ?_
     rotate_left
     ·(intro wq hSw; (try dsimp only at hSw); have hv0 := (hSw.blk HV4.out (by simp)).at_ 0; simp at hv0; have hcl := HC.out 1 x1 HX1.out _ (HX4.out.trans hSw); simp at hcl; clear hSw; go_simp; try with_reducible rfl)
     try simp only [Act.put, tdy]
     refine tpu (i := 2) (v := ?_) ?_ ?_
     rotate_left
     ·(intro w; go_simp; try with_reducible rfl)
     try simp only [Act.put, tdy]
     refine tpu (i := 3) (v := ?_) ?_ ?_
     rotate_left
     ·(intro w; go_simp; try with_reducible rfl)
     try simp only [Act.put, tdy]
     refine tpu (i := 4) (v := ?_) ?_ ?_
     rotate_left
     ·(intro w; go_simp; try with_reducible rfl)
     try simp only [Act.put, tdy]
     refine trd (i := 5) (v := ?_) 0 ?_ ?_
     rotate_left
     ·(intro wq hSw; (try dsimp only at hSw); have hv0 := (hSw.blk HV4.out (by simp)).at_ 0; simp at hv0; have hcl := HC.out 1 x1 HX1.out _ (HX4.out.trans hSw); simp at hcl; clear hSw; go_simp; try with_reducible rfl)
     try simp only [Act.put, tdy]
     refine tpu (i := 6) (v := ?_) ?_ ?_
     rotate_left
     ·(intro w; go_simp; try with_reducible rfl)
     try simp only [Act.put, tdy]
     refine timed_step (i := 7) (by kernel_rfl) rfl (fun K hK => ?_)
     go_simp
     refine hK.out _ _ (timed_holds (((Only.refl [] w4).drew).alloc _) (timed_nil)) ?_
     clear hK K
     try simp only [Act.put, tdy]
     refine timed_step (i := 8) (by kernel_rfl) rfl (fun K hK => ?_)
     refine wp_store_blk 128 (.tmp 9) (.tmp 56) rfl w4.heap.size 128 #[.int .i64 0, .string ⟨#[]⟩, .string ⟨#[]⟩, .int .i64 0, .int .i64 0, .int .i64 0] #[.int .i64 kk, .string x1, .string ⟨#[]⟩, .int .i64 0, .int .i64 0, .int .i64 0] rfl rfl (Blk.made _ _ _) rfl (by kernel_rfl) (by kernel_rfl) ?_
     intro w5 bE O5
     have HS5 := Lib.hid ((((Only.refl [] w4).drew).alloc (.cells #[.int .i64 0, .string ⟨#[]⟩, .string ⟨#[]⟩, .int .i64 0, .int .i64 0, .int .i64 0] 128)).step O5 (fun i hi hl => by simp at hi; omega))
     clear O5
     refine hK.out _ _ (timed_holds (HS5.out) (timed_nil)) ?_
     clear hK K
     try simp only [Act.put, tdy]
     refine timed_done (by kernel_rfl) ?_ _
     refine NoPanic.normal ?_
     have HX5 := Lib.hid (HX4.out.trans HS5.out)
     have HO5 := Lib.hid (HO1.out.trans HX5.out)
     have bR5 := HS5.out.blk bR (by simp)
     have HV5 := Lib.hid (HS5.out.blk HV4.out (by simp))
     have hszR := bR.lt
     have v2 := HV5.out.at_ 2
     have lV := HV5.out.lt
     have hle1 := HX4.out.size
     simp at v2
     clear bR HV4 HX4 HO4 HS5
     rcases HKO.out with ⟨rfl, hn4⟩ | ⟨rfl, hn4⟩
     ·obtain rfl : r = ⟨kk, x1, ⟨#[]⟩, 0, 0, true, 0⟩ := by rw [HEV2.out]; simp
      have bR := bR5
      clear HEV2 HKO
      go_upto_region 9 with (fail)
      refine wp_region_lit ?_
      refine wpList_load_mid rfl 128 (.tmp 9) rfl w4.heap.size 0 rfl (#[.int .i64 kk, .string x1, .string ⟨#[]⟩, .int .i64 0, .int .i64 0, .int .i64 0] : Array Value).toList _ bE.range Tryz.underlying128 rfl (by kernel_rfl) ?_
      refine wpList_store_mid rfl 128 (.tmp 2) (.tmp 60) rfl w.heap.size 0 #[.int .i64 kk, .string x1, .string ⟨#[]⟩, .int .i64 0, .int .i64 0, .int .i64 0] rfl rfl bR.there (by kernel_rfl) (by kernel_rfl) ?_
      go_wp2
      refine bodyPost_ret (results_row3 Tryz.results100 _ _ w.heap.size 128 #[.int .i64 kk, .string x1, .string ⟨#[]⟩, .int .i64 0, .int .i64 0, .int .i64 0] _ rfl (bR.putAll _ rfl) Tryz.underlying128 rfl (by kernel_rfl)) rfl ⟨rfl, HO5.out.putAll (fun h => by omega) _⟩
     ·have h22 : (2 : Int) < (n : Int) := by omega
      have h33 : (3 : Int) < (n : Int) := by omega
      obtain ⟨x2, hx2⟩ : ∃ x, ws[2]? = some x := ⟨_, List.getElem?_eq_getElem (by rw [← HN.out]; omega)⟩
      obtain ⟨x3, hx3⟩ : ∃ x, ws[3]? = some x := ⟨_, List.getElem?_eq_getElem (by rw [← HN.out]; omega)⟩
      have HX3' := Lib.hid hx3
      have HX2' := Lib.hid hx2
      have HEV3 : Hid (r = (if isName x2 = true then (if opE kk x3 = 0 then ⟨kk, x1, x2, opK kk x3, opN kk x3, true, 0⟩ else evNo (opE kk x3)) else evNo 5)) := Lib.hid (by
       rw [HEV2.out, show ws.getD 2 ⟨#[]⟩ = x2 by simp [List.getD_eq_getElem?_getD, hx2], show ws.getD 3 ⟨#[]⟩ = x3 by simp [List.getD_eq_getElem?_getD, hx3]]
       simp)
      have hc2 := HC.out 2 x2 hx2 w5 HX5.out
      simp at hc2
      have HS2 := Lib.hid (HIS.out x2 w5 (List.mem_of_getElem? hx2) HO5.out)
      have HOP3 := Lib.hid (fun w' => HOP.out kk x3 w' (List.mem_of_getElem? hx3))
      obtain ⟨ns, hns⟩ : ∃ x, x = isName x2 := ⟨_, rfl⟩
      rw [← hns] at HEV3 HS2
      clear hx2 hx3 hns HEV2 HKO hn4
      go_wp2_with fail
      refine (HS2.out).mono ?_
      rintro e w6 ⟨rfl, O6⟩
      have HX6 := Lib.hid (HX5.out.trans O6)
      have HO6 := Lib.hid (HO1.out.trans HX6.out)
      have bR6 := O6.blk bR5 (by simp)
      have HV6 := Lib.hid (O6.blk HV5.out (by simp))
      have bE6 := O6.blk bE (by simp)
      clear O6 HS2 hc2 v2 lV HV5 HX5 HO5 bR5 bE
      cases ns with
      | false =>
       obtain rfl : r = evNo 5 := by rw [HEV3.out]; simp
       have bR := bR6
       clear HEV3
       go_upto_region 11 with (fail)
       refine wp_region_lit ?_
       refine wpList_plain rfl (fun K hK => ?_)
       go_simp
       refine hK _ _ ?_
       clear hK K
       refine wpList_store_mid rfl 128 (.tmp 2) (.tmp 67) rfl w.heap.size 0 #[.int .i64 0, .string ⟨#[]⟩, .string ⟨#[]⟩, .int .i64 0, .int .i64 0, .int .i64 0] rfl rfl bR.there (by kernel_rfl) (by kernel_rfl) ?_
       go_wp2
       refine bodyPost_ret (results_row3 Tryz.results100 _ _ w.heap.size 128 #[.int .i64 0, .string ⟨#[]⟩, .string ⟨#[]⟩, .int .i64 0, .int .i64 0, .int .i64 0] _ rfl (bR.putAll _ rfl) Tryz.underlying128 rfl (by kernel_rfl)) rfl ⟨rfl, HO6.out.putAll (fun h => by omega) _⟩
      | true =>
       have hc2 := HC.out 2 x2 HX2'.out w6 HX6.out
       simp at hc2
       have lE := bE6.lt
       have e2 := bE6.at_ 2
       have g2 := bE6.free 2
       simp at e2
       go_upto_region 13 with (fail)
       have bE7 := bE6.put 2 (.string x2)
       have O7 : Only [w4.heap.size] w6 (w6.setCell ⟨w4.heap.size, 2, none⟩ (.string x2)) := (Only.refl _ w6).put (fun _ => by simp) _
       have HX7 := Lib.hid (HX6.out.step O7 (fun i hi hl => by simp at hi; omega))
       have HO7 := Lib.hid (HO1.out.trans HX7.out)
       have HV7 := Lib.hid (O7.blk HV6.out (by simp; omega))
       have bR7 := O7.blk bR6 (by simp; omega)
       clear O7 lE e2 g2 bE6 HX6 HO6 HV6 bR6 hc2
       generalize (w6.setCell ⟨w4.heap.size, 2, none⟩ (.string x2)) = w7 at *
       obtain ⟨oe, hoe⟩ : ∃ x, x = opE kk x3 := ⟨_, rfl⟩
       obtain ⟨ok, hok⟩ : ∃ x, x = opK kk x3 := ⟨_, rfl⟩
       obtain ⟨on, hon⟩ : ∃ x, x = opN kk x3 := ⟨_, rfl⟩
       rw [← hoe, ← hok, ← hon] at HEV3 HOP3
       clear hoe hok hon
       refine wp_region_noPanic ?_
       refine wp_region_timed (F := [⟨[], [], fun w' => Only [w4.heap.size] w7 w'⟩]) (by kernel_rfl) (timed_holds ((Only.refl [w4.heap.size] w7).drew) (timed_nil)) ?_
       refine tpu (i := 0) (v := ?_) ?_ ?_
       rotate_left
       ·(intro w; go_simp; try with_reducible rfl)
       try simp only [Act.put, tdy]
       refine trd (i := 1) (v := ?_) 0 ?_ ?_
       rotate_left
       ·(intro wq hSw; (try dsimp only at hSw); have hv0 := (hSw.blk HV7.out (by simp; omega)).at_ 0; simp at hv0; have hcl := HC.out 3 x3 HX3'.out _ (HX7.out.step hSw (fun i hi hl => by simp at hi; omega)); simp at hcl; clear hSw; go_simp; try with_reducible rfl)
       try simp only [Act.put, tdy]
       refine tpu (i := 2) (v := ?_) ?_ ?_
       rotate_left
       ·(intro w; go_simp; try with_reducible rfl)
       try simp only [Act.put, tdy]
       refine tpu (i := 3) (v := ?_) ?_ ?_
       rotate_left
       ·(intro w; go_simp; try with_reducible rfl)
       try simp only [Act.put, tdy]
       refine tpu (i := 4) (v := ?_) ?_ ?_
       rotate_left
       ·(intro w; go_simp; try with_reducible rfl)
       try simp only [Act.put, tdy]
       refine trd (i := 5) (v := ?_) 0 ?_ ?_
       rotate_left
       ·(intro wq hSw; (try dsimp only at hSw); have hv0 := (hSw.blk HV7.out (by simp; omega)).at_ 0; simp at hv0; have hcl := HC.out 3 x3 HX3'.out _ (HX7.out.step hSw (fun i hi hl => by simp at hi; omega)); simp at hcl; clear hSw; go_simp; try with_reducible rfl)
       try simp only [Act.put, tdy]
       refine timed_step (i := 6) (by kernel_rfl) rfl (fun K hK => ?_)
       go_simp
       refine (HOP3.out _).mono ?_
       rintro e w8 ⟨rfl, O8⟩
       have bE8 := O8.blk bE7 (by simp)
       have bR8 := O8.blk bR7 (by simp)
       have HX8 := Lib.hid (HX7.out.drew.trans O8)
       have l8 := bE8.lt
       have e3 := bE8.at_ 3
       have e4 := bE8.at_ 4
       have g3 := bE8.free 3
       have g4 := bE8.free 4
       simp at e3 e4
       refine hK.out _ _ (timed_holds (((Only.refl [w4.heap.size] w7).drew).trans (O8.wide (fun i hi => by cases hi))) (timed_nil)) ?_
       clear hK K
       try simp only [Act.put, tdy]
       refine tpu (i := 7) (v := ?_) ?_ ?_
       rotate_left
       ·(intro w; go_simp; try with_reducible rfl)
       try simp only [Act.put, tdy]
       refine tpu (i := 8) (v := ?_) ?_ ?_
       rotate_left
       ·(intro w; go_simp; try with_reducible rfl)
       try simp only [Act.put, tdy]
       refine tpu (i := 9) (v := ?_) ?_ ?_
       rotate_left
       ·(intro w; go_simp; try with_reducible rfl)
       try simp only [Act.put, tdy]
       refine tpu (i := 10) (v := ?_) ?_ ?_
       rotate_left
       ·(intro w; go_simp; try with_reducible rfl)
       try simp only [Act.put, tdy]
       refine timed_step (i := 11) (by kernel_rfl) rfl (fun K hK => ?_)
       go_simp
       refine hK.out _ _ (timed_holds (((((Only.refl [w4.heap.size] w7).drew).trans (O8.wide (fun i hi => by cases hi))).put (fun _ => by simp) _).put (fun _ => by simp) _) (timed_nil)) ?_
       clear hK K
       try simp only [Act.put, tdy]
       refine tpu (i := 12) (v := ?_) ?_ ?_
       rotate_left
       ·(intro w; go_simp; try with_reducible rfl)
       try simp only [Act.put, tdy]
       refine timed_done (by kernel_rfl) ?_ _
       refine NoPanic.normal ?_
       have bE : Blk ((w8.setCell ⟨w4.heap.size, 3, none⟩ (.int .i64 ok)).setCell ⟨w4.heap.size, 4, none⟩ (.int .i64 on)) w4.heap.size 128 #[.int .i64 kk, .string x1, .string x2, .int .i64 ok, .int .i64 on, .int .i64 0] := (bE8.put 3 (.int .i64 ok)).put 4 (.int .i64 on)
       have bR : Blk ((w8.setCell ⟨w4.heap.size, 3, none⟩ (.int .i64 ok)).setCell ⟨w4.heap.size, 4, none⟩ (.int .i64 on)) w.heap.size 128 #[.int .i64 0, .string ⟨#[]⟩, .string ⟨#[]⟩, .int .i64 0, .int .i64 0, .int .i64 0] := (bR8.far (by simp only; omega) _).far (by simp only; omega) _
       have HX9 := Lib.hid ((HX8.out.put (p := ⟨w4.heap.size, 3, none⟩) (fun h => by simp only at h; omega) (.int .i64 ok)).put (p := ⟨w4.heap.size, 4, none⟩) (fun h => by simp only at h; omega) (.int .i64 on))
       have HO9 := Lib.hid (HO1.out.trans HX9.out)
       clear bE8 bR8 HX8 l8 e3 e4 g3 g4 bE7 bR7 HX7 HO7 HV7 O8 HX9
       generalize ((w8.setCell ⟨w4.heap.size, 3, none⟩ (.int .i64 ok)).setCell ⟨w4.heap.size, 4, none⟩ (.int .i64 on)) = w9 at *
       by_cases hoe : oe = 0
       ·subst hoe
        obtain rfl : r = ⟨kk, x1, x2, ok, on, true, 0⟩ := by rw [HEV3.out]; simp
        clear HEV3
        go_upto_region 16 with (fail)
        refine wp_region_lit ?_
        refine wpList_load_mid rfl 128 (.tmp 9) rfl w4.heap.size 0 rfl (#[.int .i64 kk, .string x1, .string x2, .int .i64 ok, .int .i64 on, .int .i64 0] : Array Value).toList _ bE.range Tryz.underlying128 rfl (by kernel_rfl) ?_
        refine wpList_store_mid rfl 128 (.tmp 2) (.tmp 88) rfl w.heap.size 0 #[.int .i64 kk, .string x1, .string x2, .int .i64 ok, .int .i64 on, .int .i64 0] rfl rfl bR.there (by kernel_rfl) (by kernel_rfl) ?_
        go_wp2
        refine bodyPost_ret (results_row3 Tryz.results100 _ _ w.heap.size 128 #[.int .i64 kk, .string x1, .string x2, .int .i64 ok, .int .i64 on, .int .i64 0] _ rfl (bR.putAll _ rfl) Tryz.underlying128 rfl (by kernel_rfl)) rfl ⟨rfl, HO9.out.putAll (fun h => by omega) _⟩
       ·have hne : (oe != 0) = true := by simpa using hoe
        obtain rfl : r = evNo oe := by rw [HEV3.out]; simp [hoe]
        clear HEV3 hoe
        go_upto_region 15 with (fail)
        refine wp_region_lit ?_
        refine wpList_plain rfl (fun K hK => ?_)
        go_simp
        refine hK _ _ ?_
        clear hK K
        refine wpList_plain rfl (fun K hK => ?_)
        go_simp
        refine hK _ _ ?_
        clear hK K
        refine wpList_store_mid rfl 128 (.tmp 2) (.tmp 86) rfl w.heap.size 0 #[.int .i64 0, .string ⟨#[]⟩, .string ⟨#[]⟩, .int .i64 0, .int .i64 0, .int .i64 0] rfl rfl bR.there (by kernel_rfl) (by kernel_rfl) ?_
        go_wp2
        refine bodyPost_ret (results_row3 Tryz.results100 _ _ w.heap.size 128 #[.int .i64 0, .string ⟨#[]⟩, .string ⟨#[]⟩, .int .i64 0, .int .i64 0, .int .i64 0] _ rfl (bR.putAll _ rfl) Tryz.underlying128 rfl (by kernel_rfl)) rfl ⟨rfl, HO9.out.putAll (fun h => by omega) _⟩
   ·have hne : ((n : Int) != wn) = true := by simpa using hnn
    obtain rfl : r = evNo 5 := by
     rw [HEV.out, if_neg]
     rintro ⟨-, h, -⟩
     exact hnn h
    have bR := bR3
    clear HEV hnn
    go_upto_region 6 with (fail)
    refine wp_region_lit ?_
    refine wpList_plain rfl (fun K hK => ?_)
    go_simp
    refine hK _ _ ?_
    clear hK K
    refine wpList_store_mid rfl 128 (.tmp 2) (.tmp 49) rfl w.heap.size 0 #[.int .i64 0, .string ⟨#[]⟩, .string ⟨#[]⟩, .int .i64 0, .int .i64 0, .int .i64 0] rfl rfl bR.there (by kernel_rfl) (by kernel_rfl) ?_
    go_wp2
    refine bodyPost_ret (results_row3 Tryz.results100 _ _ w.heap.size 128 #[.int .i64 0, .string ⟨#[]⟩, .string ⟨#[]⟩, .int .i64 0, .int .i64 0, .int .i64 0] _ rfl (bR.putAll _ rfl) Tryz.underlying128 rfl (by kernel_rfl)) rfl ⟨rfl, HO3.out.putAll (fun h => by omega) _⟩
end Go.Proofs.YtjfbeeogiejopaaGreatDoor
