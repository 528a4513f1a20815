/- The document's event.Parse. -/
import Derived.Test.YthaeomdpaadilaaGreatDoorShowParsesCardK25
import Derived.Test.YthaeomdpaadilaaGreatDoorShowParsesCardK35
import Derived.Test.YthaeomdpaadilaaGreatDoorShowParsesCardK39
import Derived.Test.YthaeomdpaadilaaGreatDoorShowParsesCardK40
set_option linter.unusedVariables false
set_option linter.unusedSimpArgs false
namespace Go.Proofs.YthaeomdpaadilaaGreatDoor
open Go.RowKit
open Go.Lib hiding intOf
attribute [local go_sem ↓] Go.wp_at_zero Go.wp_at_succ
/-- The kind as far as the words have been tried. -/
def kUp (j : Nat) (s : ByteArray) : Int := if wK s < (j : Int) then wK s else 0
theorem wK_bd (s : ByteArray) : 0 ≤ wK s ∧ wK s ≤ 6 := by
 rcases wK_cases s with ⟨-, h⟩ | ⟨-, h⟩ | ⟨-, h⟩ | ⟨-, h⟩ | ⟨-, h⟩ | ⟨-, h⟩ | ⟨h, -⟩ <;> omega
theorem kUp_one (s : ByteArray) : kUp 1 s = 0 := by
 unfold kUp
 have := wK_bd s
 split <;> omega
theorem kUp_end (s : ByteArray) : kUp 7 s = wK s := by
 unfold kUp
 have := wK_bd s
 rw [if_pos (by omega)]
theorem kW_toList (j : Nat) (h1 : 1 ≤ j) (h6 : j ≤ 6) (s : ByteArray) : ((kW (j : Int)).toList == s.toList) = decide (wK s = (j : Int)) := by
 have hj : j = 1 ∨ j = 2 ∨ j = 3 ∨ j = 4 ∨ j = 5 ∨ j = 6 := by omega
 rcases wK_cases s with ⟨rfl, h⟩ | ⟨rfl, h⟩ | ⟨rfl, h⟩ | ⟨rfl, h⟩ | ⟨rfl, h⟩ | ⟨rfl, h⟩ | ⟨h, g1, g2, g3, g4, g5, g6⟩
 iterate 6 (rw [h, Lib.toList_data, Lib.toList_data]; rcases hj with rfl | rfl | rfl | rfl | rfl | rfl <;> rfl)
 rw [h, decide_eq_false (by omega)]
 rcases hj with rfl | rfl | rfl | rfl | rfl | rfl
 ·rw [Lib.toList_data]; exact (ev_ne (l := [98, 101, 103, 105, 110]) g1).2
 ·rw [Lib.toList_data]; exact (ev_ne (l := [114, 101, 97, 100]) g2).2
 ·rw [Lib.toList_data]; exact (ev_ne (l := [119, 114, 105, 116, 101]) g3).2
 ·rw [Lib.toList_data]; exact (ev_ne (l := [111, 107]) g4).2
 ·rw [Lib.toList_data]; exact (ev_ne (l := [102, 97, 105, 108]) g5).2
 ·rw [Lib.toList_data]; exact (ev_ne (l := [105, 110, 102, 111]) g6).2
theorem kUp_step (j : Nat) (h1 : 1 ≤ j) (h6 : j ≤ 6) (s : ByteArray) : (decide (wK s = (j : Int)) = true ∧ kUp (j + 1) s = (j : Int)) ∨ (decide (wK s = (j : Int)) = false ∧ kUp (j + 1) s = kUp j s) := by
 unfold kUp
 have := wK_bd s
 by_cases h : wK s = (j : Int)
 ·left
  exact ⟨decide_eq_true h, by rw [if_pos (by omega), h]⟩
 ·right
  refine ⟨decide_eq_false h, ?_⟩
  split <;> split <;> omega
set_option maxRecDepth 10000 in
set_option maxHeartbeats 8000000 in
theorem revparse_any (s : ByteArray) (w : World) (hs : s.size ≤ 65535) :
  Calls Tryz.prog 48 #[.string s] w fun e w' => e = .returned (evRV (evParse s)) ∧ Only [] w w' := by
 have HWS := Lib.hid (fun w' => rwords_any s w' hs)
 have HIS := Lib.hid (fun x w' (hx : x ∈ textsOf s) => ris_any x w' (by have := texts_size s x hx; omega))
 have HOP := Lib.hid (fun x w' (hx : x ∈ textsOf s) => rvparse_any x w' (by have := texts_size s x hx; omega))
 have HKI := Lib.hid (fun w' => rkinds_any w')
 obtain ⟨r, hr⟩ : ∃ r, r = evParse s := ⟨_, rfl⟩
 rw [← hr]
 unfold evParse at hr
 have HO := Lib.hid (((Only.refl [] w).alloc (.cells #[.int .i64 0, .string ⟨#[]⟩, .string ⟨#[]⟩, .int .i64 0, .int .i64 0, .int .i64 0] 47)).alloc (.cells #[.int .i64 0, .string ⟨#[]⟩, .string ⟨#[]⟩, .int .i64 0, .int .i64 0, .int .i64 0] 47))
 have HB := Lib.hid ((Blk.made w 47 #[.int .i64 0, .string ⟨#[]⟩, .string ⟨#[]⟩, .int .i64 0, .int .i64 0, .int .i64 0]).alloc (.cells #[.int .i64 0, .string ⟨#[]⟩, .string ⟨#[]⟩, .int .i64 0, .int .i64 0, .int .i64 0] 47))
 have HBN := Lib.hid (Blk.made (w.alloc (.cells #[.int .i64 0, .string ⟨#[]⟩, .string ⟨#[]⟩, .int .i64 0, .int .i64 0, .int .i64 0] 47)) 47 #[.int .i64 0, .string ⟨#[]⟩, .string ⟨#[]⟩, .int .i64 0, .int .i64 0, .int .i64 0])
 rw [World.size_alloc] at HBN
 have HWL := Lib.hid (show (wordsOf (by_ s)).length = (textsOf s).length by simp [textsOf])
 have HWV := Lib.hid (fun i x h => wordsV_at s (wordsOf (by_ s)) i x h)
 have HSL : Hid ((textsOf s).length ≤ 65536) := Lib.hid (by
  rw [← HWL.out]
  have := spans_len (codeL (by_ s)) 0 none
  have h2 := ahead_len (by_ s)
  rw [code_len] at this
  have h3 := by_length s
  unfold wordsOf
  omega)
 have HRB := Lib.hid hr
 clear hr hs
 go_enter Tryz.func48, Tryz.ntmps48
 go_wp2_with fail
 refine (HWS.out _).mono ?_
 rintro e w1 ⟨O1, ⟨hb, rfl⟩ | ⟨hb, V, rfl, hown⟩⟩
 ·have hr : r = evNo 5 := by rw [HRB.out, if_pos hb]
  have bR := O1.blk HB.out (by simp)
  have bN := O1.blk HBN.out (by simp)
  have HO1 := Lib.hid (HO.out.trans O1)
  clear O1 hb HRB HB HBN
  subst hr
  have h0 := HO1.out.size
  go_upto_region 4 with (fail)
  refine wp_region_lit ?_
  refine wpList_load_mid rfl 47 (.tmp 5) rfl (w.heap.size + 1) 0 rfl (#[.int .i64 0, .string ⟨#[]⟩, .string ⟨#[]⟩, .int .i64 0, .int .i64 0, .int .i64 0] : Array Value).toList _ bN.range Tryz.underlying47 rfl (by kernel_rfl) ?_
  refine wpList_plain rfl (fun K hK => ?_)
  go_simp
  refine hK _ _ ?_
  clear hK K
  refine wpList_store_mid rfl 47 (.tmp 2) (.tmp 21) rfl w.heap.size 0 #[.int .i64 0, .string ⟨#[]⟩, .string ⟨#[]⟩, .int .i64 0, .int .i64 0, .int .i64 0] rfl rfl bR.there (by kernel_rfl) (by kernel_rfl) ?_
  go_wp2
  refine bodyPost_ret (results_row3 Tryz.results48 _ _ w.heap.size 47 #[.int .i64 0, .string ⟨#[]⟩, .string ⟨#[]⟩, .int .i64 0, .int .i64 0, .int .i64 0] _ rfl (bR.putAll _ rfl) Tryz.underlying47 rfl (by kernel_rfl)) rfl ⟨rfl, HO1.out.putAll (fun h => by omega) _⟩
 have hr : r = evOf (textsOf s) := by rw [HRB.out, if_neg (by rw [hb]; simp)]
 rw [HWL.out] at hown
 obtain ⟨A, c, rfl, hc1, hc2, -, hrow⟩ := own_row hown
 have bR := O1.blk HB.out (by simp)
 have bN := O1.blk HBN.out (by simp)
 have HO1 := Lib.hid (HO.out.trans O1)
 have HWV2 : Hid (∀ i x, (textsOf s)[i]? = some x → (wordsV s (wordsOf (by_ s)))[i * 2]? = some (.string x)) := Lib.hid (fun i x h => HWV.out i x h)
 have HWL2 : Hid ((wordsV s (wordsOf (by_ s))).length = (textsOf s).length * 2) := Lib.hid (by rw [wordsV_len, HWL.out]; omega)
 have HROW := Lib.hid hrow
 clear O1 hb HRB hown HWL HWV hrow HB HBN
 generalize wordsV s (wordsOf (by_ s)) = cells at *
 generalize textsOf s = ws at *
 have h0 := HO1.out.size
 have hsl := HSL.out
 cases hws : ws with
 | nil =>
  subst hws
  have hr : r = evNo 0 := hr
  subst hr
  clear HROW HWV2 HWL2
  go_upto_region 6 with (fail)
  refine wp_region_lit ?_
  refine wpList_load_mid rfl 47 (.tmp 5) rfl (w.heap.size + 1) 0 rfl (#[.int .i64 0, .string ⟨#[]⟩, .string ⟨#[]⟩, .int .i64 0, .int .i64 0, .int .i64 0] : Array Value).toList _ bN.range Tryz.underlying47 rfl (by kernel_rfl) ?_
  refine wpList_store_mid rfl 47 (.tmp 2) (.tmp 26) rfl w.heap.size 0 #[.int .i64 0, .string ⟨#[]⟩, .string ⟨#[]⟩, .int .i64 0, .int .i64 0, .int .i64 0] rfl rfl bR.there (by kernel_rfl) (by kernel_rfl) ?_
  go_wp2
  refine bodyPost_ret (results_row3 Tryz.results48 _ _ w.heap.size 47 #[.int .i64 0, .string ⟨#[]⟩, .string ⟨#[]⟩, .int .i64 0, .int .i64 0, .int .i64 0] _ rfl (bR.putAll _ rfl) Tryz.underlying47 rfl (by kernel_rfl)) rfl ⟨rfl, HO1.out.putAll (fun h => by omega) _⟩
 | cons w0 rest =>
  rw [← hws]
  obtain ⟨n, hn⟩ : ∃ n, n = ws.length := ⟨_, rfl⟩
  have hn1 : 1 ≤ n := by rw [hn, hws]; simp
  rw [← hn] at HWL2 hsl hc1 ⊢
  obtain ⟨b, off, rfl, -, hbw, hcell⟩ := HROW.out.open_ (k := 0) (by rw [HWL2.out]; omega)
  have HC : Hid (∀ i x, ws[i]? = some x → ∀ w', Only [] w1 w' → w'.cell? ⟨b, off + i * 2, none⟩ = some (.string x)) := Lib.hid (fun i x hi w' hO => (hO.cell (p := ⟨b, off + i * 2, none⟩) hbw (by simp)).trans (hcell _ _ (HWV2.out i x hi)))
  have HX00 : Hid (ws[0]? = some w0) := Lib.hid (by rw [hws]; rfl)
  have hr : r = evOf ws := hr
  have HEV : Hid (r = if kOk (wK w0) = true ∧ (n : Int) = (if kO (wK w0) = true then 4 else 2) ∧ isName (ws.getD 1 ⟨#[]⟩) = true then
   (if kO (wK w0) = true then
    (if isName (ws.getD 2 ⟨#[]⟩) = true then
     (if opE (wK w0) (ws.getD 3 ⟨#[]⟩) = 0 then ⟨wK w0, ws.getD 1 ⟨#[]⟩, ws.getD 2 ⟨#[]⟩, opK (wK w0) (ws.getD 3 ⟨#[]⟩), opN (wK w0) (ws.getD 3 ⟨#[]⟩), true, 0⟩ else evNo (opE (wK w0) (ws.getD 3 ⟨#[]⟩)))
    else evNo 5)
   else ⟨wK w0, ws.getD 1 ⟨#[]⟩, ⟨#[]⟩, 0, 0, true, 0⟩)
  else evNo 5) := Lib.hid (by rw [hr, hws, hn, hws]; rfl)
  have HN := Lib.hid hn
  have HR1 := Lib.hid bR
  have hlt1 := bR.lt
  have HN1 := Lib.hid bN
  clear hr hws hcell HROW HWV2 HWL2 hn bR bN
  have h01 : (0 : Int) < (n : Int) := by omega
  have h0n : 0 < n := hn1
  have hn0 : ((n : Int) == 0) = false := by simp; omega
  go_wp2_with fail
  go_loopw [8, 9] (fun kv iv wr => ∃ j : Nat, iv = .int .i64 j ∧ 1 ≤ j ∧ j ≤ 7 ∧ kv = .int .i64 (kUp j w0) ∧ Hid (Only [] w1 wr)) (fun _ iv _ => 7 - (intOf iv).toNat)
  case atStart => exact ⟨1, rfl, by omega, by omega, by rw [kUp_one], Lib.hid (Only.refl [] w1)⟩
  case round =>
   obtain ⟨j, rfl, hj1, hj7, rfl, HOW⟩ := hrel
   by_cases hlt : j < 7
   ·have h07 : (j : Int) < 7 := by omega
    have hj0 : (0 : Int) ≤ (j : Int) := by omega
    have hwk : IntKind.i64.wrap ((j : Int) + 1) = (j : Int) + 1 := IntWalk.i64_in _ (by omega)
    have HKC : Hid (kindC[j]? = some (.string (kW (j : Int)))) := Lib.hid (kind_at j hj1 (by omega))
    have HTL := Lib.hid (kW_toList j hj1 (by omega) w0)
    have HST := Lib.hid (kUp_step j hj1 (by omega) w0)
    obtain ⟨kw, hkw⟩ : ∃ x, x = kW (j : Int) := ⟨_, rfl⟩
    rw [← hkw] at HKC HTL
    obtain ⟨ku, hku⟩ : ∃ x, x = kUp j w0 := ⟨_, rfl⟩
    rw [← hku] at HST ⊢
    obtain ⟨dd, hdd⟩ : ∃ x, x = decide (wK w0 = (j : Int)) := ⟨_, rfl⟩
    rw [← hdd] at HST HTL
    have hTL := HTL.out
    have hjw : (j : Int) < 7 := h07
    have hszr := HOW.out.size
    clear hkw hku hdd
    go_upto_region 11 with (fail)
    refine wp_region_noPanic ?_
    refine wp_region_timed (F := [⟨[], [], fun w' => Only [] wr w'⟩, ⟨[0], [], fun w' => Blk w' wr.heap.size 9 kindC⟩]) (by kernel_rfl) (timed_holds ((Only.refl [] wr).drew) (timed_waits (by kernel_rfl) (timed_nil))) ?_
    refine timed_pure (i := 1) (v := ?_) rfl (by kernel_rfl) (by kernel_rfl) (by kernel_rfl) (fun _ _ _ h => h) (by kernel_rfl) (by kernel_rfl) ?_ ?_
    rotate_left
    ·(intro w; go_simp; try with_reducible rfl)
    try simp only [Act.put, tdy]
    refine timed_pure (i := 4) (v := ?_) rfl (by kernel_rfl) (by kernel_rfl) (by kernel_rfl) (fun _ _ _ h => h) (by kernel_rfl) (by kernel_rfl) ?_ ?_
    rotate_left
    ·(intro w; go_simp; try with_reducible rfl)
    try simp only [Act.put, tdy]
    refine timed_pure (i := 5) (v := ?_) rfl (by kernel_rfl) (by kernel_rfl) (by kernel_rfl) (fun _ _ _ h => h) (by kernel_rfl) (by kernel_rfl) ?_ ?_
    rotate_left
    ·(intro w; go_simp; try with_reducible rfl)
    try simp only [Act.put, tdy]
    refine timed_pure (i := 6) (v := ?_) rfl (by kernel_rfl) (by kernel_rfl) (by kernel_rfl) (fun _ _ _ h => h) (by kernel_rfl) (by kernel_rfl) ?_ ?_
    rotate_left
    ·(intro w; go_simp; try with_reducible rfl)
    try simp only [Act.put, tdy]
    refine timed_read (i := 7) (v := ?_) 0 rfl (by kernel_rfl) (by kernel_rfl) (by kernel_rfl) (fun _ _ _ h => h) (by kernel_rfl) (by kernel_rfl) rfl (by kernel_rfl) ?_ ?_
    rotate_left
    ·(intro wq hSw; (try dsimp only at hSw); first | (have hc := HC.out 0 w0 HX00.out wq (HOW.out.trans hSw); simp at hc; clear hSw; go_simp; try with_reducible rfl) | (have hc := (hSw.at_ j).trans HKC.out; clear hSw; go_simp; try with_reducible rfl))
    try simp only [Act.put, tdy]
    refine timed_step (i := 0) (by kernel_rfl) rfl (fun K hK => ?_)
    go_simp
    refine (HKI.out _).mono ?_
    rintro e w3 ⟨rfl, rfl⟩
    refine hK.out _ _ (timed_holds (((Only.refl [] wr).drew).alloc _) (timed_holds (Blk.made wr.drew 9 kindC) (timed_nil))) ?_
    clear hK K
    try simp only [Act.put, tdy]
    refine timed_pure (i := 2) (v := ?_) rfl (by kernel_rfl) (by kernel_rfl) (by kernel_rfl) (fun _ _ _ h => h) (by kernel_rfl) (by kernel_rfl) ?_ ?_
    rotate_left
    ·(intro w; go_simp; try with_reducible rfl)
    try simp only [Act.put, tdy]
    refine timed_read (i := 3) (v := ?_) 1 rfl (by kernel_rfl) (by kernel_rfl) (by kernel_rfl) (fun _ _ _ h => h) (by kernel_rfl) (by kernel_rfl) rfl (by kernel_rfl) ?_ ?_
    rotate_left
    ·(intro wq hSw; (try dsimp only at hSw); first | (have hc := HC.out 0 w0 HX00.out wq (HOW.out.trans hSw); simp at hc; clear hSw; go_simp; try with_reducible rfl) | (have hc := (hSw.at_ j).trans HKC.out; clear hSw; go_simp; try with_reducible rfl))
    try simp only [Act.put, tdy]
    refine timed_pure (i := 8) (v := ?_) rfl (by kernel_rfl) (by kernel_rfl) (by kernel_rfl) (fun _ _ _ h => h) (by kernel_rfl) (by kernel_rfl) ?_ ?_
    rotate_left
    ·(intro w; go_simp; try with_reducible rfl)
    try simp only [Act.put, tdy]
    refine timed_done (by kernel_rfl) ?_ _
    refine NoPanic.normal ?_
    have HOZ := Lib.hid (HOW.out.trans (((Only.refl [] wr).drew).alloc (.cells kindC 9)))
    generalize ((wr.drew).alloc (.cells kindC 9)) = wz at *
    cases dd with
    | true =>
     have hst : kUp (j + 1) w0 = (j : Int) := by
      rcases HST.out with ⟨-, h⟩ | ⟨h, -⟩
      ·exact h
      ·cases h
     go_wp2
     go_roundw
     case rel => exact ⟨j + 1, by go_num, by omega, by omega, by rw [hst], HOZ⟩
     case measure => simp [intOf]; omega
    | false =>
     have hst : kUp (j + 1) w0 = ku := by
      rcases HST.out with ⟨h, -⟩ | ⟨-, h⟩
      ·cases h
      ·exact h
     go_wp2
     go_roundw
     case rel => exact ⟨j + 1, by go_num, by omega, by omega, by rw [hst], HOZ⟩
     case measure => simp [intOf]; omega
   ·have hj : j = 7 := by omega
    subst hj
    rw [kUp_end] at *
    have HX2 := HOW
    have HWB := Lib.hid (wK_bd w0)
    generalize hkk : wK w0 = kk at *
    clear hkk
    have HO2 := Lib.hid (HO1.out.trans HX2.out)
    have bR := HX2.out.blk HR1.out (by simp)
    have bN := HX2.out.blk HN1.out (by simp)
    have hsz2 := HX2.out.size
    clear HOW HR1 HN1
    have hk2 : (kk == 2) = true ∧ kO kk = true ∧ kk = 2 ∨ (kk == 2) = false ∧ (kk == 3) = true ∧ kO kk = true ∧ kk = 3 ∨ (kk == 2) = false ∧ (kk == 3) = false ∧ kO kk = false ∧ kk ≠ 3 := by
     by_cases h2 : kk = 2
     ·subst h2; exact .inl ⟨rfl, rfl, rfl⟩
     ·by_cases h3 : kk = 3
      ·subst h3; exact .inr (.inl ⟨rfl, rfl, rfl, rfl⟩)
      ·exact .inr (.inr ⟨by simpa using h2, by simpa using h3, decide_eq_false (by omega), h3⟩)
    have hd7 : decide ((7 : Int) < 7) = false := rfl
    rcases hk2 with ⟨q1, hko, rfl⟩ | ⟨q1, q2, hko, rfl⟩ | ⟨q1, q2, hko, q3⟩
    rotate_left 2
    ·rw [hko] at HEV
     by_cases hk0 : kk = 0
     ·subst hk0
      obtain rfl : r = evNo 5 := by rw [HEV.out, if_neg (by rintro ⟨h, -⟩; cases h)]
      clear HEV
      go_upto_region 17 with (fail)
      refine wp_region_lit ?_
      refine wpList_load_mid rfl 47 (.tmp 5) rfl (w.heap.size + 1) 0 rfl (#[.int .i64 0, .string ⟨#[]⟩, .string ⟨#[]⟩, .int .i64 0, .int .i64 0, .int .i64 0] : Array Value).toList _ bN.range Tryz.underlying47 rfl (by kernel_rfl) ?_
      refine wpList_store_mid rfl 47 (.tmp 2) (.tmp 63) rfl w.heap.size 0 #[.int .i64 0, .string ⟨#[]⟩, .string ⟨#[]⟩, .int .i64 0, .int .i64 0, .int .i64 0] rfl rfl bR.there (by kernel_rfl) (by kernel_rfl) ?_
      go_wp2
      refine bodyPost_ret (results_row3 Tryz.results48 _ _ w.heap.size 47 #[.int .i64 0, .string ⟨#[]⟩, .string ⟨#[]⟩, .int .i64 0, .int .i64 0, .int .i64 0] _ rfl (bR.putAll _ rfl) Tryz.underlying47 rfl (by kernel_rfl)) rfl ⟨rfl, HO2.out.putAll (fun h => by omega) _⟩
     ·have hk0' : (kk == 0) = false := by simpa using hk0
      have hkok : kOk kk = true := decide_eq_true (by have := HWB.out; omega)
      rw [hkok] at HEV
      clear hk0 q3 hkok HWB
      by_cases hnn : (n : Int) = 2
      ·have hn2 : ((n : Int) != 2) = false := by simpa using hnn
       have h11 : (1 : Int) < (n : Int) := by omega
       obtain ⟨x1, hx1⟩ : ∃ x1, ws[1]? = some x1 := ⟨_, List.getElem?_eq_getElem (by rw [← HN.out]; omega)⟩
       have HG1 := Lib.hid (show ws.getD 1 ⟨#[]⟩ = x1 by simp [List.getD_eq_getElem?_getD, hx1])
       have hc1 := HC.out 1 x1 hx1 wr HX2.out
       simp at hc1
       have HS1 := Lib.hid (HIS.out x1 wr (List.mem_of_getElem? hx1))
       rw [HG1.out] at HEV
       have HX1 := Lib.hid hx1
       obtain ⟨ns, hns⟩ : ∃ x, x = isName x1 := ⟨_, rfl⟩
       rw [← hns] at HEV HS1
       clear hx1 hns
       go_wp2_with fail
       refine (HS1.out).mono ?_
       rintro e w4 ⟨rfl, O4⟩
       have HX4 := Lib.hid (HX2.out.trans O4)
       have HO4 := Lib.hid (HO1.out.trans HX4.out)
       have bR4 := O4.blk bR (by simp)
       have bN4 := O4.blk bN (by simp)
       have hsz4 := O4.size
       clear O4 HS1 bR bN hc1
       have bR := bR4
       have bN := bN4
       clear bR4 bN4
       cases ns with
       | false =>
        obtain rfl : r = evNo 5 := by rw [HEV.out]; simp
        clear HEV
        go_upto_region 17 with (fail)
        refine wp_region_lit ?_
        refine wpList_load_mid rfl 47 (.tmp 5) rfl (w.heap.size + 1) 0 rfl (#[.int .i64 0, .string ⟨#[]⟩, .string ⟨#[]⟩, .int .i64 0, .int .i64 0, .int .i64 0] : Array Value).toList _ bN.range Tryz.underlying47 rfl (by kernel_rfl) ?_
        refine wpList_store_mid rfl 47 (.tmp 2) (.tmp 63) rfl w.heap.size 0 #[.int .i64 0, .string ⟨#[]⟩, .string ⟨#[]⟩, .int .i64 0, .int .i64 0, .int .i64 0] rfl rfl bR.there (by kernel_rfl) (by kernel_rfl) ?_
        go_wp2
        refine bodyPost_ret (results_row3 Tryz.results48 _ _ w.heap.size 47 #[.int .i64 0, .string ⟨#[]⟩, .string ⟨#[]⟩, .int .i64 0, .int .i64 0, .int .i64 0] _ rfl (bR.putAll _ rfl) Tryz.underlying47 rfl (by kernel_rfl)) rfl ⟨rfl, HO4.out.putAll (fun h => by omega) _⟩
       | true =>
        obtain rfl : r = ⟨kk, x1, ⟨#[]⟩, 0, 0, true, 0⟩ := by rw [HEV.out, hnn]; simp
        clear HEV
        have hc1 := HC.out 1 x1 HX1.out w4 HX4.out
        simp at hc1
        go_upto_region 19 with (fail)
        have bE := Blk.made w4 47 #[.int .i64 kk, .string x1, .string ⟨#[]⟩, .int .i64 0, .int .i64 0, .int .i64 0]
        have HO5 := Lib.hid (HO4.out.alloc (.cells #[.int .i64 kk, .string x1, .string ⟨#[]⟩, .int .i64 0, .int .i64 0, .int .i64 0] 47))
        have bR5 := bR.alloc (.cells #[.int .i64 kk, .string x1, .string ⟨#[]⟩, .int .i64 0, .int .i64 0, .int .i64 0] 47)
        clear bR bN hc1
        have bR := bR5
        clear bR5
        go_upto_region 20 with (fail)
        refine wp_region_lit ?_
        refine wpList_load_mid rfl 47 (.tmp 11) rfl _ 0 rfl (#[.int .i64 kk, .string x1, .string ⟨#[]⟩, .int .i64 0, .int .i64 0, .int .i64 0] : Array Value).toList _ bE.range Tryz.underlying47 rfl (by kernel_rfl) ?_
        refine wpList_store_mid rfl 47 (.tmp 2) (.tmp 72) rfl w.heap.size 0 #[.int .i64 kk, .string x1, .string ⟨#[]⟩, .int .i64 0, .int .i64 0, .int .i64 0] rfl rfl bR.there (by kernel_rfl) (by kernel_rfl) ?_
        go_wp2
        refine bodyPost_ret (results_row3 Tryz.results48 _ _ w.heap.size 47 #[.int .i64 kk, .string x1, .string ⟨#[]⟩, .int .i64 0, .int .i64 0, .int .i64 0] _ rfl (bR.putAll _ rfl) Tryz.underlying47 rfl (by kernel_rfl)) rfl ⟨rfl, HO5.out.putAll (fun h => by omega) _⟩
      ·have hn2 : ((n : Int) != 2) = true := by simpa using hnn
       obtain rfl : r = evNo 5 := by
        rw [HEV.out, if_neg]
        rintro ⟨-, h, -⟩
        exact hnn (by simpa using h)
       clear HEV hnn
       go_upto_region 17 with (fail)
       refine wp_region_lit ?_
       refine wpList_load_mid rfl 47 (.tmp 5) rfl (w.heap.size + 1) 0 rfl (#[.int .i64 0, .string ⟨#[]⟩, .string ⟨#[]⟩, .int .i64 0, .int .i64 0, .int .i64 0] : Array Value).toList _ bN.range Tryz.underlying47 rfl (by kernel_rfl) ?_
       refine wpList_store_mid rfl 47 (.tmp 2) (.tmp 63) rfl w.heap.size 0 #[.int .i64 0, .string ⟨#[]⟩, .string ⟨#[]⟩, .int .i64 0, .int .i64 0, .int .i64 0] rfl rfl bR.there (by kernel_rfl) (by kernel_rfl) ?_
       go_wp2
       refine bodyPost_ret (results_row3 Tryz.results48 _ _ w.heap.size 47 #[.int .i64 0, .string ⟨#[]⟩, .string ⟨#[]⟩, .int .i64 0, .int .i64 0, .int .i64 0] _ rfl (bR.putAll _ rfl) Tryz.underlying47 rfl (by kernel_rfl)) rfl ⟨rfl, HO2.out.putAll (fun h => by omega) _⟩
    ·rw [hko] at HEV
     clear HWB
     by_cases hnn : (n : Int) = 4
     ·have hn2 : ((n : Int) != 4) = false := by simpa using hnn
      have h11 : (1 : Int) < (n : Int) := by omega
      have h22 : (2 : Int) < (n : Int) := by omega
      have h33 : (3 : Int) < (n : Int) := by omega
      obtain ⟨x1, hx1⟩ : ∃ x1, ws[1]? = some x1 := ⟨_, List.getElem?_eq_getElem (by rw [← HN.out]; omega)⟩
      obtain ⟨x2, hx2⟩ : ∃ x, ws[2]? = some x := ⟨_, List.getElem?_eq_getElem (by rw [← HN.out]; omega)⟩
      obtain ⟨x3, hx3⟩ : ∃ x, ws[3]? = some x := ⟨_, List.getElem?_eq_getElem (by rw [← HN.out]; omega)⟩
      have HX1 := Lib.hid hx1
      have HXX2 := Lib.hid hx2
      have HXX3 := Lib.hid hx3
      rw [show ws.getD 1 ⟨#[]⟩ = x1 by simp [List.getD_eq_getElem?_getD, hx1], show ws.getD 2 ⟨#[]⟩ = x2 by simp [List.getD_eq_getElem?_getD, hx2], show ws.getD 3 ⟨#[]⟩ = x3 by simp [List.getD_eq_getElem?_getD, hx3]] at HEV
      have hc1 := HC.out 1 x1 hx1 wr HX2.out
      simp at hc1
      have HS1 := Lib.hid (HIS.out x1 wr (List.mem_of_getElem? hx1))
      have HS2 := Lib.hid (fun w' => HIS.out x2 w' (List.mem_of_getElem? hx2))
      have HP3 := Lib.hid (fun w' => HOP.out x3 w' (List.mem_of_getElem? hx3))
      obtain ⟨ns, hns⟩ : ∃ x, x = isName x1 := ⟨_, rfl⟩
      obtain ⟨ns2, hns2⟩ : ∃ x, x = isName x2 := ⟨_, rfl⟩
      rw [← hns, ← hns2] at HEV
      rw [← hns] at HS1
      rw [← hns2] at HS2
      clear hx1 hx2 hx3 hns hns2
      go_wp2_with fail
      refine (HS1.out).mono ?_
      rintro e w4 ⟨rfl, O4⟩
      have HX4 := Lib.hid (HX2.out.trans O4)
      have HO4 := Lib.hid (HO1.out.trans HX4.out)
      have bR4 := O4.blk bR (by simp)
      have bN4 := O4.blk bN (by simp)
      have hsz4 := O4.size
      clear O4 HS1 bR bN hc1
      have bR := bR4
      have bN := bN4
      clear bR4 bN4
      cases ns with
      | false =>
       obtain rfl : r = evNo 5 := by rw [HEV.out]; simp
       clear HEV
       go_upto_region 17 with (fail)
       refine wp_region_lit ?_
       refine wpList_load_mid rfl 47 (.tmp 5) rfl (w.heap.size + 1) 0 rfl (#[.int .i64 0, .string ⟨#[]⟩, .string ⟨#[]⟩, .int .i64 0, .int .i64 0, .int .i64 0] : Array Value).toList _ bN.range Tryz.underlying47 rfl (by kernel_rfl) ?_
       refine wpList_store_mid rfl 47 (.tmp 2) (.tmp 63) rfl w.heap.size 0 #[.int .i64 0, .string ⟨#[]⟩, .string ⟨#[]⟩, .int .i64 0, .int .i64 0, .int .i64 0] rfl rfl bR.there (by kernel_rfl) (by kernel_rfl) ?_
       go_wp2
       refine bodyPost_ret (results_row3 Tryz.results48 _ _ w.heap.size 47 #[.int .i64 0, .string ⟨#[]⟩, .string ⟨#[]⟩, .int .i64 0, .int .i64 0, .int .i64 0] _ rfl (bR.putAll _ rfl) Tryz.underlying47 rfl (by kernel_rfl)) rfl ⟨rfl, HO4.out.putAll (fun h => by omega) _⟩
      | true =>
       have hc1 := HC.out 1 x1 HX1.out w4 HX4.out
       simp at hc1
       have hc2 := HC.out 2 x2 HXX2.out (w4.alloc (.cells #[.int .i64 2, .string x1, .string ⟨#[]⟩, .int .i64 0, .int .i64 0, .int .i64 0] 47)) (HX4.out.alloc (.cells #[.int .i64 2, .string x1, .string ⟨#[]⟩, .int .i64 0, .int .i64 0, .int .i64 0] 47))
       simp at hc2
       go_upto_region 21 with (fail)
       have bE5 := Blk.made w4 47 #[.int .i64 2, .string x1, .string ⟨#[]⟩, .int .i64 0, .int .i64 0, .int .i64 0]
       have HX5 := Lib.hid (HX4.out.alloc (.cells #[.int .i64 2, .string x1, .string ⟨#[]⟩, .int .i64 0, .int .i64 0, .int .i64 0] 47))
       have bR5 := bR.alloc (.cells #[.int .i64 2, .string x1, .string ⟨#[]⟩, .int .i64 0, .int .i64 0, .int .i64 0] 47)
       have bN5 := bN.alloc (.cells #[.int .i64 2, .string x1, .string ⟨#[]⟩, .int .i64 0, .int .i64 0, .int .i64 0] 47)
       clear bR bN hc1
       generalize hw5 : w4.alloc (.cells #[.int .i64 2, .string x1, .string ⟨#[]⟩, .int .i64 0, .int .i64 0, .int .i64 0] 47) = w5 at *
       have hge : w1.heap.size ≤ w4.heap.size := HX4.out.size
       clear hw5
       generalize w4.heap.size = ge at *
       go_wp2_with fail
       refine (HS2.out _).mono ?_
       rintro e w6 ⟨rfl, O6⟩
       have HX6 := Lib.hid (HX5.out.trans O6)
       have HO6 := Lib.hid (HO1.out.trans HX6.out)
       have bR := O6.blk bR5 (by simp)
       have bN := O6.blk bN5 (by simp)
       have bE6 := O6.blk bE5 (by simp)
       clear O6 HS2 hc2 bR5 bN5 bE5 HX5
       cases ns2 with
       | false =>
        obtain rfl : r = evNo 5 := by rw [HEV.out, hnn]; simp
        clear HEV
        go_upto_region 22 with (fail)
        refine wp_region_lit ?_
        refine wpList_load_mid rfl 47 (.tmp 5) rfl (w.heap.size + 1) 0 rfl (#[.int .i64 0, .string ⟨#[]⟩, .string ⟨#[]⟩, .int .i64 0, .int .i64 0, .int .i64 0] : Array Value).toList _ bN.range Tryz.underlying47 rfl (by kernel_rfl) ?_
        refine wpList_store_mid rfl 47 (.tmp 2) (.tmp 79) rfl w.heap.size 0 #[.int .i64 0, .string ⟨#[]⟩, .string ⟨#[]⟩, .int .i64 0, .int .i64 0, .int .i64 0] rfl rfl bR.there (by kernel_rfl) (by kernel_rfl) ?_
        go_wp2
        refine bodyPost_ret (results_row3 Tryz.results48 _ _ w.heap.size 47 #[.int .i64 0, .string ⟨#[]⟩, .string ⟨#[]⟩, .int .i64 0, .int .i64 0, .int .i64 0] _ rfl (bR.putAll _ rfl) Tryz.underlying47 rfl (by kernel_rfl)) rfl ⟨rfl, HO6.out.putAll (fun h => by omega) _⟩
       | true =>
        obtain ⟨pk, hpk⟩ : ∃ x, x = pvK x3.data.toList := ⟨_, rfl⟩
        obtain ⟨pn, hpn⟩ : ∃ x, x = pvN x3.data.toList := ⟨_, rfl⟩
        obtain ⟨pe, hpe⟩ : ∃ x, x = pvE x3.data.toList := ⟨_, rfl⟩
        have HEV3 : Hid (r = (if opE 2 x3 = 0 then ⟨2, x1, x2, opK 2 x3, opN 2 x3, true, 0⟩ else evNo (opE 2 x3))) := Lib.hid (by rw [HEV.out, hnn, show kOk 2 = true from rfl]; simp)
        have HOE : Hid (opE 2 x3 = if pe ≠ 0 then pe else if (2 : Int) = 3 ∧ pk = 2 then 5 else if (2 : Int) = 3 ∧ pk = 0 then 11 else 0) := Lib.hid (by rw [hpe, hpk]; rfl)
        have HOK : Hid (opK 2 x3 = if opE 2 x3 = 0 then pk else 0) := Lib.hid (by rw [hpk]; rfl)
        have HON : Hid (opN 2 x3 = if opE 2 x3 = 0 then pn else 0) := Lib.hid (by rw [hpn]; rfl)
        have HPP := Lib.hid (HP3.out w6)
        rw [← hpk, ← hpn, ← hpe] at HPP
        have hc3 := HC.out 3 x3 HXX3.out w6 HX6.out
        simp at hc3
        clear hpk hpn hpe HP3 HEV
        go_wp2_with fail
        refine (HPP.out).mono ?_
        rintro e w7 ⟨rfl, O7⟩
        have HX7 := Lib.hid ((HX6.out.trans O7).alloc (.cells #[.int .i64 pk, .int .i64 pn] 45))
        have HO7 := Lib.hid (HO1.out.trans HX7.out)
        have bR7 := (O7.blk bR (by simp)).alloc (.cells #[.int .i64 pk, .int .i64 pn] 45)
        have bN7 := (O7.blk bN (by simp)).alloc (.cells #[.int .i64 pk, .int .i64 pn] 45)
        have bE7 := (O7.blk bE6 (by simp)).alloc (.cells #[.int .i64 pk, .int .i64 pn] 45)
        have bV := Blk.made w7 45 #[.int .i64 pk, .int .i64 pn]
        have hgv := (O7.blk bE6 (by simp)).lt
        clear O7 HPP hc3 bR bN bE6 HX6 HO6
        by_cases hpe : pe = 0
        ·subst hpe
         go_upto_region 26 with (fail)
         generalize (w7.alloc (.cells #[.int .i64 pk, .int .i64 pn] 45)) = w8 at *
         generalize w7.heap.size = gv at *
         have lV := bV.lt
         have v0 := bV.at_ 0
         simp at v0
         have hoe : opE 2 x3 = 0 := by rw [HOE.out]; simp
         obtain rfl : r = ⟨2, x1, x2, pk, pn, true, 0⟩ := by rw [HEV3.out, HOK.out, HON.out, hoe]; simp
         have hc2 := HC.out 2 x2 HXX2.out w8 HX7.out
         simp at hc2
         have v1 := bV.at_ 1
         have lE := bE7.lt
         have e2 := bE7.at_ 2
         have g2 := bE7.free 2
         have e3 := bE7.at_ 3
         have g3 := bE7.free 3
         have e4 := bE7.at_ 4
         have g4 := bE7.free 4
         simp at e2 e3 e4
         simp at v1
         have HBE := Lib.hid bE7
         have HBV := Lib.hid bV
         have HBR := Lib.hid bR7
         clear HEV3 HOE HOK HON hoe bN7 bE7 bV bR7
         go_upto_region 30 with (fail)
         refine wp_region_noPanic ?_
         refine wp_region_timed (F := [⟨[], [], fun w' => Only [ge] w8 w'⟩]) (by kernel_rfl) (timed_holds ((Only.refl [ge] w8).drew) (timed_nil)) ?_
         refine timed_pure (i := 0) (v := ?_) rfl (by kernel_rfl) (by kernel_rfl) (by kernel_rfl) (fun _ _ _ h => h) (by kernel_rfl) (by kernel_rfl) ?_ ?_
         rotate_left
         ·(intro w; go_simp; try with_reducible rfl)
         try simp only [Act.put, tdy]
         refine timed_pure (i := 1) (v := ?_) rfl (by kernel_rfl) (by kernel_rfl) (by kernel_rfl) (fun _ _ _ h => h) (by kernel_rfl) (by kernel_rfl) ?_ ?_
         rotate_left
         ·(intro w; go_simp; try with_reducible rfl)
         try simp only [Act.put, tdy]
         refine timed_pure (i := 2) (v := ?_) rfl (by kernel_rfl) (by kernel_rfl) (by kernel_rfl) (fun _ _ _ h => h) (by kernel_rfl) (by kernel_rfl) ?_ ?_
         rotate_left
         ·(intro w; go_simp; try with_reducible rfl)
         try simp only [Act.put, tdy]
         refine timed_read (i := 3) (v := ?_) 0 rfl (by kernel_rfl) (by kernel_rfl) (by kernel_rfl) (fun _ _ _ h => h) (by kernel_rfl) (by kernel_rfl) rfl (by kernel_rfl) ?_ ?_
         rotate_left
         ·(intro wq hSw; (try dsimp only at hSw); have hv0 := (hSw.blk HBV.out (by simp; omega)).at_ 0; have hv1 := (hSw.blk HBV.out (by simp; omega)).at_ 1; simp at hv0 hv1; have hcl := HC.out 2 x2 HXX2.out _ (HX7.out.step hSw (fun i hi hl => by simp at hi; omega)); simp at hcl; clear hSw; go_simp; try with_reducible rfl)
         try simp only [Act.put, tdy]
         refine timed_read (i := 4) (v := ?_) 0 rfl (by kernel_rfl) (by kernel_rfl) (by kernel_rfl) (fun _ _ _ h => h) (by kernel_rfl) (by kernel_rfl) rfl (by kernel_rfl) ?_ ?_
         rotate_left
         ·(intro wq hSw; (try dsimp only at hSw); have hv0 := (hSw.blk HBV.out (by simp; omega)).at_ 0; have hv1 := (hSw.blk HBV.out (by simp; omega)).at_ 1; simp at hv0 hv1; have hcl := HC.out 2 x2 HXX2.out _ (HX7.out.step hSw (fun i hi hl => by simp at hi; omega)); simp at hcl; clear hSw; go_simp; try with_reducible rfl)
         try simp only [Act.put, tdy]
         refine timed_pure (i := 5) (v := ?_) rfl (by kernel_rfl) (by kernel_rfl) (by kernel_rfl) (fun _ _ _ h => h) (by kernel_rfl) (by kernel_rfl) ?_ ?_
         rotate_left
         ·(intro w; go_simp; try with_reducible rfl)
         try simp only [Act.put, tdy]
         refine timed_step (i := 6) (by kernel_rfl) rfl (fun K hK => ?_)
         go_simp
         refine hK.out _ _ (timed_holds (((Only.refl [ge] w8).drew).put (fun _ => by simp) _) (timed_nil)) ?_
         clear hK K
         try simp only [Act.put, tdy]
         refine timed_pure (i := 7) (v := ?_) rfl (by kernel_rfl) (by kernel_rfl) (by kernel_rfl) (fun _ _ _ h => h) (by kernel_rfl) (by kernel_rfl) ?_ ?_
         rotate_left
         ·(intro w; go_simp; try with_reducible rfl)
         try simp only [Act.put, tdy]
         refine timed_step (i := 8) (by kernel_rfl) rfl (fun K hK => ?_)
         go_simp
         refine hK.out _ _ (timed_holds (((((Only.refl [ge] w8).drew).put (fun _ => by simp) _).put (fun _ => by simp) _).put (fun _ => by simp) _) (timed_nil)) ?_
         clear hK K
         try simp only [Act.put, tdy]
         refine timed_done (by kernel_rfl) ?_ _
         refine NoPanic.normal ?_
         have bE : Blk ((((w8.setCell ⟨ge, 2, none⟩ (.string x2)).setCell ⟨ge, 3, none⟩ (.int .i64 pk)).setCell ⟨ge, 4, none⟩ (.int .i64 pn)).drew) ge 47 #[.int .i64 2, .string x1, .string x2, .int .i64 pk, .int .i64 pn, .int .i64 0] := (((HBE.out.put 2 (.string x2)).put 3 (.int .i64 pk)).put 4 (.int .i64 pn)).drew
         have bR : Blk ((((w8.setCell ⟨ge, 2, none⟩ (.string x2)).setCell ⟨ge, 3, none⟩ (.int .i64 pk)).setCell ⟨ge, 4, none⟩ (.int .i64 pn)).drew) w.heap.size 47 #[.int .i64 0, .string ⟨#[]⟩, .string ⟨#[]⟩, .int .i64 0, .int .i64 0, .int .i64 0] := (((HBR.out.far (by simp only; omega) _).far (by simp only; omega) _).far (by simp only; omega) _).drew
         have HO9 := Lib.hid ((((HO7.out.put (p := ⟨ge, 2, none⟩) (fun h => by simp only at h; omega) (.string x2)).put (p := ⟨ge, 3, none⟩) (fun h => by simp only at h; omega) (.int .i64 pk)).put (p := ⟨ge, 4, none⟩) (fun h => by simp only at h; omega) (.int .i64 pn)).drew)
         generalize (((w8.setCell ⟨ge, 2, none⟩ (.string x2)).setCell ⟨ge, 3, none⟩ (.int .i64 pk)).setCell ⟨ge, 4, none⟩ (.int .i64 pn)).drew = w9 at *
         go_upto_region 31 with (fail)
         refine wp_region_lit ?_
         refine wpList_load_mid rfl 47 (.tmp 11) rfl _ 0 rfl (#[.int .i64 2, .string x1, .string x2, .int .i64 pk, .int .i64 pn, .int .i64 0] : Array Value).toList _ bE.range Tryz.underlying47 rfl (by kernel_rfl) ?_
         refine wpList_store_mid rfl 47 (.tmp 2) (.tmp 115) rfl w.heap.size 0 #[.int .i64 2, .string x1, .string x2, .int .i64 pk, .int .i64 pn, .int .i64 0] rfl rfl bR.there (by kernel_rfl) (by kernel_rfl) ?_
         go_wp2
         refine bodyPost_ret (results_row3 Tryz.results48 _ _ w.heap.size 47 #[.int .i64 2, .string x1, .string x2, .int .i64 pk, .int .i64 pn, .int .i64 0] _ rfl (bR.putAll _ rfl) Tryz.underlying47 rfl (by kernel_rfl)) rfl ⟨rfl, HO9.out.putAll (fun h => by omega) _⟩
        ·have hpe' : (pe != 0) = true := by simpa using hpe
         have hoe : opE 2 x3 = pe := by rw [HOE.out, if_pos hpe]
         obtain rfl : r = evNo pe := by rw [HEV3.out, hoe, if_neg hpe]
         have bR := bR7
         have bN := bN7
         clear HEV3 HOE HOK HON hpe hoe bE7 bV bR7 bN7
         go_upto_region 25 with (fail)
         refine wp_region_lit ?_
         refine wpList_load_mid rfl 47 (.tmp 5) rfl (w.heap.size + 1) 0 rfl (#[.int .i64 0, .string ⟨#[]⟩, .string ⟨#[]⟩, .int .i64 0, .int .i64 0, .int .i64 0] : Array Value).toList _ bN.range Tryz.underlying47 rfl (by kernel_rfl) ?_
         refine wpList_plain rfl (fun K hK => ?_)
         go_simp
         refine hK _ _ ?_
         clear hK K
         refine wpList_store_mid rfl 47 (.tmp 2) (.tmp 90) rfl w.heap.size 0 #[.int .i64 0, .string ⟨#[]⟩, .string ⟨#[]⟩, .int .i64 0, .int .i64 0, .int .i64 0] rfl rfl bR.there (by kernel_rfl) (by kernel_rfl) ?_
         go_wp2
         refine bodyPost_ret (results_row3 Tryz.results48 _ _ w.heap.size 47 #[.int .i64 0, .string ⟨#[]⟩, .string ⟨#[]⟩, .int .i64 0, .int .i64 0, .int .i64 0] _ rfl (bR.putAll _ rfl) Tryz.underlying47 rfl (by kernel_rfl)) rfl ⟨rfl, HO7.out.putAll (fun h => by omega) _⟩
     ·have hn2 : ((n : Int) != 4) = true := by simpa using hnn
      obtain rfl : r = evNo 5 := by
       rw [HEV.out, if_neg]
       rintro ⟨-, h, -⟩
       exact hnn (by simpa using h)
      clear HEV hnn
      go_upto_region 17 with (fail)
      refine wp_region_lit ?_
      refine wpList_load_mid rfl 47 (.tmp 5) rfl (w.heap.size + 1) 0 rfl (#[.int .i64 0, .string ⟨#[]⟩, .string ⟨#[]⟩, .int .i64 0, .int .i64 0, .int .i64 0] : Array Value).toList _ bN.range Tryz.underlying47 rfl (by kernel_rfl) ?_
      refine wpList_store_mid rfl 47 (.tmp 2) (.tmp 63) rfl w.heap.size 0 #[.int .i64 0, .string ⟨#[]⟩, .string ⟨#[]⟩, .int .i64 0, .int .i64 0, .int .i64 0] rfl rfl bR.there (by kernel_rfl) (by kernel_rfl) ?_
      go_wp2
      refine bodyPost_ret (results_row3 Tryz.results48 _ _ w.heap.size 47 #[.int .i64 0, .string ⟨#[]⟩, .string ⟨#[]⟩, .int .i64 0, .int .i64 0, .int .i64 0] _ rfl (bR.putAll _ rfl) Tryz.underlying47 rfl (by kernel_rfl)) rfl ⟨rfl, HO2.out.putAll (fun h => by omega) _⟩

    ·rw [hko] at HEV
     clear HWB
     by_cases hnn : (n : Int) = 4
     ·have hn2 : ((n : Int) != 4) = false := by simpa using hnn
      have h11 : (1 : Int) < (n : Int) := by omega
      have h22 : (2 : Int) < (n : Int) := by omega
      have h33 : (3 : Int) < (n : Int) := by omega
      obtain ⟨x1, hx1⟩ : ∃ x1, ws[1]? = some x1 := ⟨_, List.getElem?_eq_getElem (by rw [← HN.out]; omega)⟩
      obtain ⟨x2, hx2⟩ : ∃ x, ws[2]? = some x := ⟨_, List.getElem?_eq_getElem (by rw [← HN.out]; omega)⟩
      obtain ⟨x3, hx3⟩ : ∃ x, ws[3]? = some x := ⟨_, List.getElem?_eq_getElem (by rw [← HN.out]; omega)⟩
      have HX1 := Lib.hid hx1
      have HXX2 := Lib.hid hx2
      have HXX3 := Lib.hid hx3
      rw [show ws.getD 1 ⟨#[]⟩ = x1 by simp [List.getD_eq_getElem?_getD, hx1], show ws.getD 2 ⟨#[]⟩ = x2 by simp [List.getD_eq_getElem?_getD, hx2], show ws.getD 3 ⟨#[]⟩ = x3 by simp [List.getD_eq_getElem?_getD, hx3]] at HEV
      have hc1 := HC.out 1 x1 hx1 wr HX2.out
      simp at hc1
      have HS1 := Lib.hid (HIS.out x1 wr (List.mem_of_getElem? hx1))
      have HS2 := Lib.hid (fun w' => HIS.out x2 w' (List.mem_of_getElem? hx2))
      have HP3 := Lib.hid (fun w' => HOP.out x3 w' (List.mem_of_getElem? hx3))
      obtain ⟨ns, hns⟩ : ∃ x, x = isName x1 := ⟨_, rfl⟩
      obtain ⟨ns2, hns2⟩ : ∃ x, x = isName x2 := ⟨_, rfl⟩
      rw [← hns, ← hns2] at HEV
      rw [← hns] at HS1
      rw [← hns2] at HS2
      clear hx1 hx2 hx3 hns hns2
      go_wp2_with fail
      refine (HS1.out).mono ?_
      rintro e w4 ⟨rfl, O4⟩
      have HX4 := Lib.hid (HX2.out.trans O4)
      have HO4 := Lib.hid (HO1.out.trans HX4.out)
      have bR4 := O4.blk bR (by simp)
      have bN4 := O4.blk bN (by simp)
      have hsz4 := O4.size
      clear O4 HS1 bR bN hc1
      have bR := bR4
      have bN := bN4
      clear bR4 bN4
      cases ns with
      | false =>
       obtain rfl : r = evNo 5 := by rw [HEV.out]; simp
       clear HEV
       go_upto_region 17 with (fail)
       refine wp_region_lit ?_
       refine wpList_load_mid rfl 47 (.tmp 5) rfl (w.heap.size + 1) 0 rfl (#[.int .i64 0, .string ⟨#[]⟩, .string ⟨#[]⟩, .int .i64 0, .int .i64 0, .int .i64 0] : Array Value).toList _ bN.range Tryz.underlying47 rfl (by kernel_rfl) ?_
       refine wpList_store_mid rfl 47 (.tmp 2) (.tmp 63) rfl w.heap.size 0 #[.int .i64 0, .string ⟨#[]⟩, .string ⟨#[]⟩, .int .i64 0, .int .i64 0, .int .i64 0] rfl rfl bR.there (by kernel_rfl) (by kernel_rfl) ?_
       go_wp2
       refine bodyPost_ret (results_row3 Tryz.results48 _ _ w.heap.size 47 #[.int .i64 0, .string ⟨#[]⟩, .string ⟨#[]⟩, .int .i64 0, .int .i64 0, .int .i64 0] _ rfl (bR.putAll _ rfl) Tryz.underlying47 rfl (by kernel_rfl)) rfl ⟨rfl, HO4.out.putAll (fun h => by omega) _⟩
      | true =>
       have hc1 := HC.out 1 x1 HX1.out w4 HX4.out
       simp at hc1
       have hc2 := HC.out 2 x2 HXX2.out (w4.alloc (.cells #[.int .i64 3, .string x1, .string ⟨#[]⟩, .int .i64 0, .int .i64 0, .int .i64 0] 47)) (HX4.out.alloc (.cells #[.int .i64 3, .string x1, .string ⟨#[]⟩, .int .i64 0, .int .i64 0, .int .i64 0] 47))
       simp at hc2
       go_upto_region 21 with (fail)
       have bE5 := Blk.made w4 47 #[.int .i64 3, .string x1, .string ⟨#[]⟩, .int .i64 0, .int .i64 0, .int .i64 0]
       have HX5 := Lib.hid (HX4.out.alloc (.cells #[.int .i64 3, .string x1, .string ⟨#[]⟩, .int .i64 0, .int .i64 0, .int .i64 0] 47))
       have bR5 := bR.alloc (.cells #[.int .i64 3, .string x1, .string ⟨#[]⟩, .int .i64 0, .int .i64 0, .int .i64 0] 47)
       have bN5 := bN.alloc (.cells #[.int .i64 3, .string x1, .string ⟨#[]⟩, .int .i64 0, .int .i64 0, .int .i64 0] 47)
       clear bR bN hc1
       generalize hw5 : w4.alloc (.cells #[.int .i64 3, .string x1, .string ⟨#[]⟩, .int .i64 0, .int .i64 0, .int .i64 0] 47) = w5 at *
       have hge : w1.heap.size ≤ w4.heap.size := HX4.out.size
       clear hw5
       generalize w4.heap.size = ge at *
       go_wp2_with fail
       refine (HS2.out _).mono ?_
       rintro e w6 ⟨rfl, O6⟩
       have HX6 := Lib.hid (HX5.out.trans O6)
       have HO6 := Lib.hid (HO1.out.trans HX6.out)
       have bR := O6.blk bR5 (by simp)
       have bN := O6.blk bN5 (by simp)
       have bE6 := O6.blk bE5 (by simp)
       clear O6 HS2 hc2 bR5 bN5 bE5 HX5
       cases ns2 with
       | false =>
        obtain rfl : r = evNo 5 := by rw [HEV.out, hnn]; simp
        clear HEV
        go_upto_region 22 with (fail)
        refine wp_region_lit ?_
        refine wpList_load_mid rfl 47 (.tmp 5) rfl (w.heap.size + 1) 0 rfl (#[.int .i64 0, .string ⟨#[]⟩, .string ⟨#[]⟩, .int .i64 0, .int .i64 0, .int .i64 0] : Array Value).toList _ bN.range Tryz.underlying47 rfl (by kernel_rfl) ?_
        refine wpList_store_mid rfl 47 (.tmp 2) (.tmp 79) rfl w.heap.size 0 #[.int .i64 0, .string ⟨#[]⟩, .string ⟨#[]⟩, .int .i64 0, .int .i64 0, .int .i64 0] rfl rfl bR.there (by kernel_rfl) (by kernel_rfl) ?_
        go_wp2
        refine bodyPost_ret (results_row3 Tryz.results48 _ _ w.heap.size 47 #[.int .i64 0, .string ⟨#[]⟩, .string ⟨#[]⟩, .int .i64 0, .int .i64 0, .int .i64 0] _ rfl (bR.putAll _ rfl) Tryz.underlying47 rfl (by kernel_rfl)) rfl ⟨rfl, HO6.out.putAll (fun h => by omega) _⟩
       | true =>
        obtain ⟨pk, hpk⟩ : ∃ x, x = pvK x3.data.toList := ⟨_, rfl⟩
        obtain ⟨pn, hpn⟩ : ∃ x, x = pvN x3.data.toList := ⟨_, rfl⟩
        obtain ⟨pe, hpe⟩ : ∃ x, x = pvE x3.data.toList := ⟨_, rfl⟩
        have HEV3 : Hid (r = (if opE 3 x3 = 0 then ⟨3, x1, x2, opK 3 x3, opN 3 x3, true, 0⟩ else evNo (opE 3 x3))) := Lib.hid (by rw [HEV.out, hnn, show kOk 3 = true from rfl]; simp)
        have HOE : Hid (opE 3 x3 = if pe ≠ 0 then pe else if (3 : Int) = 3 ∧ pk = 2 then 5 else if (3 : Int) = 3 ∧ pk = 0 then 11 else 0) := Lib.hid (by rw [hpe, hpk]; rfl)
        have HOK : Hid (opK 3 x3 = if opE 3 x3 = 0 then pk else 0) := Lib.hid (by rw [hpk]; rfl)
        have HON : Hid (opN 3 x3 = if opE 3 x3 = 0 then pn else 0) := Lib.hid (by rw [hpn]; rfl)
        have HPP := Lib.hid (HP3.out w6)
        rw [← hpk, ← hpn, ← hpe] at HPP
        have hc3 := HC.out 3 x3 HXX3.out w6 HX6.out
        simp at hc3
        clear hpk hpn hpe HP3 HEV
        go_wp2_with fail
        refine (HPP.out).mono ?_
        rintro e w7 ⟨rfl, O7⟩
        have HX7 := Lib.hid ((HX6.out.trans O7).alloc (.cells #[.int .i64 pk, .int .i64 pn] 45))
        have HO7 := Lib.hid (HO1.out.trans HX7.out)
        have bR7 := (O7.blk bR (by simp)).alloc (.cells #[.int .i64 pk, .int .i64 pn] 45)
        have bN7 := (O7.blk bN (by simp)).alloc (.cells #[.int .i64 pk, .int .i64 pn] 45)
        have bE7 := (O7.blk bE6 (by simp)).alloc (.cells #[.int .i64 pk, .int .i64 pn] 45)
        have bV := Blk.made w7 45 #[.int .i64 pk, .int .i64 pn]
        have hgv := (O7.blk bE6 (by simp)).lt
        clear O7 HPP hc3 bR bN bE6 HX6 HO6
        by_cases hpe : pe = 0
        ·subst hpe
         go_upto_region 26 with (fail)
         generalize (w7.alloc (.cells #[.int .i64 pk, .int .i64 pn] 45)) = w8 at *
         generalize w7.heap.size = gv at *
         have lV := bV.lt
         have v0 := bV.at_ 0
         simp at v0
         by_cases hp0 : pk = 0
         ·subst hp0
          have hoe : opE 3 x3 = 11 := by rw [HOE.out]; simp
          obtain rfl : r = evNo 11 := by rw [HEV3.out, hoe]; simp
          have bR := bR7
          have bN := bN7
          clear HEV3 HOE HOK HON hoe bE7 bR7 bN7
          go_upto_region 27 with (fail)
          refine wp_region_lit ?_
          refine wpList_load_mid rfl 47 (.tmp 5) rfl (w.heap.size + 1) 0 rfl (#[.int .i64 0, .string ⟨#[]⟩, .string ⟨#[]⟩, .int .i64 0, .int .i64 0, .int .i64 0] : Array Value).toList _ bN.range Tryz.underlying47 rfl (by kernel_rfl) ?_
          refine wpList_store_mid rfl 47 (.tmp 2) (.tmp 99) rfl w.heap.size 0 #[.int .i64 0, .string ⟨#[]⟩, .string ⟨#[]⟩, .int .i64 0, .int .i64 0, .int .i64 0] rfl rfl bR.there (by kernel_rfl) (by kernel_rfl) ?_
          go_wp2
          refine bodyPost_ret (results_row3 Tryz.results48 _ _ w.heap.size 47 #[.int .i64 0, .string ⟨#[]⟩, .string ⟨#[]⟩, .int .i64 0, .int .i64 0, .int .i64 0] _ rfl (bR.putAll _ rfl) Tryz.underlying47 rfl (by kernel_rfl)) rfl ⟨rfl, HO7.out.putAll (fun h => by omega) _⟩
         ·have hp0' : (pk == 0) = false := by simpa using hp0
          by_cases hp2 : pk = 2
          ·subst hp2
           have hoe : opE 3 x3 = 5 := by rw [HOE.out]; simp
           obtain rfl : r = evNo 5 := by rw [HEV3.out, hoe]; simp
           have bR := bR7
           have bN := bN7
           clear HEV3 HOE HOK HON hoe bE7 bR7 bN7
           go_upto_region 29 with (fail)
           refine wp_region_lit ?_
           refine wpList_load_mid rfl 47 (.tmp 5) rfl (w.heap.size + 1) 0 rfl (#[.int .i64 0, .string ⟨#[]⟩, .string ⟨#[]⟩, .int .i64 0, .int .i64 0, .int .i64 0] : Array Value).toList _ bN.range Tryz.underlying47 rfl (by kernel_rfl) ?_
           refine wpList_store_mid rfl 47 (.tmp 2) (.tmp 107) rfl w.heap.size 0 #[.int .i64 0, .string ⟨#[]⟩, .string ⟨#[]⟩, .int .i64 0, .int .i64 0, .int .i64 0] rfl rfl bR.there (by kernel_rfl) (by kernel_rfl) ?_
           go_wp2
           refine bodyPost_ret (results_row3 Tryz.results48 _ _ w.heap.size 47 #[.int .i64 0, .string ⟨#[]⟩, .string ⟨#[]⟩, .int .i64 0, .int .i64 0, .int .i64 0] _ rfl (bR.putAll _ rfl) Tryz.underlying47 rfl (by kernel_rfl)) rfl ⟨rfl, HO7.out.putAll (fun h => by omega) _⟩
          ·have hp2' : (pk == 2) = false := by simpa using hp2
           have hoe : opE 3 x3 = 0 := by rw [HOE.out]; simp [hp0, hp2]
           clear hp0 hp2
           obtain rfl : r = ⟨3, x1, x2, pk, pn, true, 0⟩ := by rw [HEV3.out, HOK.out, HON.out, hoe]; simp
           have hc2 := HC.out 2 x2 HXX2.out w8 HX7.out
           simp at hc2
           have v1 := bV.at_ 1
           have lE := bE7.lt
           have e2 := bE7.at_ 2
           have g2 := bE7.free 2
           have e3 := bE7.at_ 3
           have g3 := bE7.free 3
           have e4 := bE7.at_ 4
           have g4 := bE7.free 4
           simp at e2 e3 e4
           simp at v1
           have HBE := Lib.hid bE7
           have HBV := Lib.hid bV
           have HBR := Lib.hid bR7
           clear HEV3 HOE HOK HON hoe bN7 bE7 bV bR7
           go_upto_region 30 with (fail)
           refine wp_region_noPanic ?_
           refine wp_region_timed (F := [⟨[], [], fun w' => Only [ge] w8 w'⟩]) (by kernel_rfl) (timed_holds ((Only.refl [ge] w8).drew) (timed_nil)) ?_
           refine timed_pure (i := 0) (v := ?_) rfl (by kernel_rfl) (by kernel_rfl) (by kernel_rfl) (fun _ _ _ h => h) (by kernel_rfl) (by kernel_rfl) ?_ ?_
           rotate_left
           ·(intro w; go_simp; try with_reducible rfl)
           try simp only [Act.put, tdy]
           refine timed_pure (i := 1) (v := ?_) rfl (by kernel_rfl) (by kernel_rfl) (by kernel_rfl) (fun _ _ _ h => h) (by kernel_rfl) (by kernel_rfl) ?_ ?_
           rotate_left
           ·(intro w; go_simp; try with_reducible rfl)
           try simp only [Act.put, tdy]
           refine timed_pure (i := 2) (v := ?_) rfl (by kernel_rfl) (by kernel_rfl) (by kernel_rfl) (fun _ _ _ h => h) (by kernel_rfl) (by kernel_rfl) ?_ ?_
           rotate_left
           ·(intro w; go_simp; try with_reducible rfl)
           try simp only [Act.put, tdy]
           refine timed_read (i := 3) (v := ?_) 0 rfl (by kernel_rfl) (by kernel_rfl) (by kernel_rfl) (fun _ _ _ h => h) (by kernel_rfl) (by kernel_rfl) rfl (by kernel_rfl) ?_ ?_
           rotate_left
           ·(intro wq hSw; (try dsimp only at hSw); have hv0 := (hSw.blk HBV.out (by simp; omega)).at_ 0; have hv1 := (hSw.blk HBV.out (by simp; omega)).at_ 1; simp at hv0 hv1; have hcl := HC.out 2 x2 HXX2.out _ (HX7.out.step hSw (fun i hi hl => by simp at hi; omega)); simp at hcl; clear hSw; go_simp; try with_reducible rfl)
           try simp only [Act.put, tdy]
           refine timed_read (i := 4) (v := ?_) 0 rfl (by kernel_rfl) (by kernel_rfl) (by kernel_rfl) (fun _ _ _ h => h) (by kernel_rfl) (by kernel_rfl) rfl (by kernel_rfl) ?_ ?_
           rotate_left
           ·(intro wq hSw; (try dsimp only at hSw); have hv0 := (hSw.blk HBV.out (by simp; omega)).at_ 0; have hv1 := (hSw.blk HBV.out (by simp; omega)).at_ 1; simp at hv0 hv1; have hcl := HC.out 2 x2 HXX2.out _ (HX7.out.step hSw (fun i hi hl => by simp at hi; omega)); simp at hcl; clear hSw; go_simp; try with_reducible rfl)
           try simp only [Act.put, tdy]
           refine timed_pure (i := 5) (v := ?_) rfl (by kernel_rfl) (by kernel_rfl) (by kernel_rfl) (fun _ _ _ h => h) (by kernel_rfl) (by kernel_rfl) ?_ ?_
           rotate_left
           ·(intro w; go_simp; try with_reducible rfl)
           try simp only [Act.put, tdy]
           refine timed_step (i := 6) (by kernel_rfl) rfl (fun K hK => ?_)
           go_simp
           refine hK.out _ _ (timed_holds (((Only.refl [ge] w8).drew).put (fun _ => by simp) _) (timed_nil)) ?_
           clear hK K
           try simp only [Act.put, tdy]
           refine timed_pure (i := 7) (v := ?_) rfl (by kernel_rfl) (by kernel_rfl) (by kernel_rfl) (fun _ _ _ h => h) (by kernel_rfl) (by kernel_rfl) ?_ ?_
           rotate_left
           ·(intro w; go_simp; try with_reducible rfl)
           try simp only [Act.put, tdy]
           refine timed_step (i := 8) (by kernel_rfl) rfl (fun K hK => ?_)
           go_simp
           refine hK.out _ _ (timed_holds (((((Only.refl [ge] w8).drew).put (fun _ => by simp) _).put (fun _ => by simp) _).put (fun _ => by simp) _) (timed_nil)) ?_
           clear hK K
           try simp only [Act.put, tdy]
           refine timed_done (by kernel_rfl) ?_ _
           refine NoPanic.normal ?_
           have bE : Blk ((((w8.setCell ⟨ge, 2, none⟩ (.string x2)).setCell ⟨ge, 3, none⟩ (.int .i64 pk)).setCell ⟨ge, 4, none⟩ (.int .i64 pn)).drew) ge 47 #[.int .i64 3, .string x1, .string x2, .int .i64 pk, .int .i64 pn, .int .i64 0] := (((HBE.out.put 2 (.string x2)).put 3 (.int .i64 pk)).put 4 (.int .i64 pn)).drew
           have bR : Blk ((((w8.setCell ⟨ge, 2, none⟩ (.string x2)).setCell ⟨ge, 3, none⟩ (.int .i64 pk)).setCell ⟨ge, 4, none⟩ (.int .i64 pn)).drew) w.heap.size 47 #[.int .i64 0, .string ⟨#[]⟩, .string ⟨#[]⟩, .int .i64 0, .int .i64 0, .int .i64 0] := (((HBR.out.far (by simp only; omega) _).far (by simp only; omega) _).far (by simp only; omega) _).drew
           have HO9 := Lib.hid ((((HO7.out.put (p := ⟨ge, 2, none⟩) (fun h => by simp only at h; omega) (.string x2)).put (p := ⟨ge, 3, none⟩) (fun h => by simp only at h; omega) (.int .i64 pk)).put (p := ⟨ge, 4, none⟩) (fun h => by simp only at h; omega) (.int .i64 pn)).drew)
           generalize (((w8.setCell ⟨ge, 2, none⟩ (.string x2)).setCell ⟨ge, 3, none⟩ (.int .i64 pk)).setCell ⟨ge, 4, none⟩ (.int .i64 pn)).drew = w9 at *
           go_upto_region 31 with (fail)
           refine wp_region_lit ?_
           refine wpList_load_mid rfl 47 (.tmp 11) rfl _ 0 rfl (#[.int .i64 3, .string x1, .string x2, .int .i64 pk, .int .i64 pn, .int .i64 0] : Array Value).toList _ bE.range Tryz.underlying47 rfl (by kernel_rfl) ?_
           refine wpList_store_mid rfl 47 (.tmp 2) (.tmp 115) rfl w.heap.size 0 #[.int .i64 3, .string x1, .string x2, .int .i64 pk, .int .i64 pn, .int .i64 0] rfl rfl bR.there (by kernel_rfl) (by kernel_rfl) ?_
           go_wp2
           refine bodyPost_ret (results_row3 Tryz.results48 _ _ w.heap.size 47 #[.int .i64 3, .string x1, .string x2, .int .i64 pk, .int .i64 pn, .int .i64 0] _ rfl (bR.putAll _ rfl) Tryz.underlying47 rfl (by kernel_rfl)) rfl ⟨rfl, HO9.out.putAll (fun h => by omega) _⟩
        ·have hpe' : (pe != 0) = true := by simpa using hpe
         have hoe : opE 3 x3 = pe := by rw [HOE.out, if_pos hpe]
         obtain rfl : r = evNo pe := by rw [HEV3.out, hoe, if_neg hpe]
         have bR := bR7
         have bN := bN7
         clear HEV3 HOE HOK HON hpe hoe bE7 bV bR7 bN7
         go_upto_region 25 with (fail)
         refine wp_region_lit ?_
         refine wpList_load_mid rfl 47 (.tmp 5) rfl (w.heap.size + 1) 0 rfl (#[.int .i64 0, .string ⟨#[]⟩, .string ⟨#[]⟩, .int .i64 0, .int .i64 0, .int .i64 0] : Array Value).toList _ bN.range Tryz.underlying47 rfl (by kernel_rfl) ?_
         refine wpList_plain rfl (fun K hK => ?_)
         go_simp
         refine hK _ _ ?_
         clear hK K
         refine wpList_store_mid rfl 47 (.tmp 2) (.tmp 90) rfl w.heap.size 0 #[.int .i64 0, .string ⟨#[]⟩, .string ⟨#[]⟩, .int .i64 0, .int .i64 0, .int .i64 0] rfl rfl bR.there (by kernel_rfl) (by kernel_rfl) ?_
         go_wp2
         refine bodyPost_ret (results_row3 Tryz.results48 _ _ w.heap.size 47 #[.int .i64 0, .string ⟨#[]⟩, .string ⟨#[]⟩, .int .i64 0, .int .i64 0, .int .i64 0] _ rfl (bR.putAll _ rfl) Tryz.underlying47 rfl (by kernel_rfl)) rfl ⟨rfl, HO7.out.putAll (fun h => by omega) _⟩
     ·have hn2 : ((n : Int) != 4) = true := by simpa using hnn
      obtain rfl : r = evNo 5 := by
       rw [HEV.out, if_neg]
       rintro ⟨-, h, -⟩
       exact hnn (by simpa using h)
      clear HEV hnn
      go_upto_region 17 with (fail)
      refine wp_region_lit ?_
      refine wpList_load_mid rfl 47 (.tmp 5) rfl (w.heap.size + 1) 0 rfl (#[.int .i64 0, .string ⟨#[]⟩, .string ⟨#[]⟩, .int .i64 0, .int .i64 0, .int .i64 0] : Array Value).toList _ bN.range Tryz.underlying47 rfl (by kernel_rfl) ?_
      refine wpList_store_mid rfl 47 (.tmp 2) (.tmp 63) rfl w.heap.size 0 #[.int .i64 0, .string ⟨#[]⟩, .string ⟨#[]⟩, .int .i64 0, .int .i64 0, .int .i64 0] rfl rfl bR.there (by kernel_rfl) (by kernel_rfl) ?_
      go_wp2
      refine bodyPost_ret (results_row3 Tryz.results48 _ _ w.heap.size 47 #[.int .i64 0, .string ⟨#[]⟩, .string ⟨#[]⟩, .int .i64 0, .int .i64 0, .int .i64 0] _ rfl (bR.putAll _ rfl) Tryz.underlying47 rfl (by kernel_rfl)) rfl ⟨rfl, HO2.out.putAll (fun h => by omega) _⟩
end Go.Proofs.YthaeomdpaadilaaGreatDoor
