/- The document's events: kinds, May. The document's logs: Print. The package show: the closure that adds an event. -/
import Derived.Test.YthaeomdpaadilaaGreatDoorShowEventsCardK31
import Derived.Test.YthaeomdpaadilaaGreatDoorShowEventsCardK14
import Derived.Test.YthaeomdpaadilaaGreatDoorShowEventsCardK34
import Derived.Test.YthaeomdpaadilaaGreatDoorShowEventsCardK7
import Derived.Deep.CutBlock
import Derived.Deep.DeepCutAuto
import Derived.Test.YthaeomdpaadilaaGreatDoorShowEventsCardK10
import Derived.Test.YthaeomdpaadilaaGreatDoorShowEventsCardK19
import Derived.Test.YthaeomdpaadilaaGreatDoorShowEventsCardK2
set_option linter.unusedVariables false
set_option linter.unusedSimpArgs false
namespace Go.Proofs.YthaeomdpaadilaaGreatDoor
open Go.RowKit
open Go.Lib hiding intOf
attribute [local go_sem ↓] Go.wp_at_zero Go.wp_at_succ

def kindC : Array Value := #[.string ⟨#[]⟩, .string ⟨#[98, 101, 103, 105, 110]⟩, .string ⟨#[114, 101, 97, 100]⟩, .string ⟨#[119, 114, 105, 116, 101]⟩, .string ⟨#[111, 107]⟩, .string ⟨#[102, 97, 105, 108]⟩, .string ⟨#[105, 110, 102, 111]⟩]
theorem kind_at (m : Nat) (h1 : 1 ≤ m) (h6 : m ≤ 6) : kindC[m]? = some (.string (kW (m : Int))) := by
  have h : m = 1 ∨ m = 2 ∨ m = 3 ∨ m = 4 ∨ m = 5 ∨ m = 6 := by omega
  rcases h with rfl | rfl | rfl | rfl | rfl | rfl <;> rfl
theorem rkinds_any (w : World) : Calls Tryz.prog 65 #[] w fun e w' => e = .returned (.slice (some ⟨w.heap.size, 0, none⟩) 7 7) ∧ w.alloc (.cells kindC 9) = w' := by
  unfold kindC
  go_enter Tryz.func65, Tryz.ntmps65
  go_wp2
  go_ret
  exact ⟨rfl, rfl⟩

set_option maxRecDepth 10000 in
set_option maxHeartbeats 4000000 in
theorem revmay_any (k : Int) (s y : ByteArray) (vk vn ln : Int) (w : World) (hs : s.size ≤ 65537) (hy : y.size ≤ 65537) :
    Calls Tryz.prog 40 #[.agg #[.int .i64 k, .string s, .string y, .int .i64 vk, .int .i64 vn, .int .i64 ln]] w fun e w' => e = .returned (.bool (evOk k s y vk vn)) ∧ Only [] w w' := by
  have HS := Lib.hid (fun w' => ris_any s w' hs)
  have HY := Lib.hid (fun w' => ris_any y w' hy)
  have HM := Lib.hid (fun w' => rmay_any vk vn w')
  obtain ⟨r, hr⟩ : ∃ r, r = evOk k s y vk vn := ⟨_, rfl⟩
  rw [← hr]
  obtain ⟨ns, hns⟩ : ∃ x, x = isName s := ⟨_, rfl⟩
  obtain ⟨ny, hny⟩ : ∃ x, x = isName y := ⟨_, rfl⟩
  obtain ⟨mv, hmv⟩ : ∃ x, x = mayB vk vn := ⟨_, rfl⟩
  unfold evOk at hr
  rw [← hns, ← hny, ← hmv] at hr
  rw [← hns] at HS
  rw [← hny] at HY
  rw [← hmv] at HM
  have HR := Lib.hid hr
  have HO := Lib.hid ((Only.refl [] w).alloc (.cells #[.int .i64 k, .string s, .string y, .int .i64 vk, .int .i64 vn, .int .i64 ln] 47))
  have HE := Lib.hid (Blk.made w 47 #[.int .i64 k, .string s, .string y, .int .i64 vk, .int .i64 vn, .int .i64 ln])
  clear hr hns hny hmv hs hy
  by_cases hk1 : k < 1
  · have HK := Lib.hid (show kOk k = false from decide_eq_false (by omega))
    go_enter Tryz.func40, Tryz.ntmps40
    go_wp2
    go_ret
    exact ⟨by rw [HR.out, HK.out]; rfl, HO.out⟩
  by_cases hk6 : 6 < k
  · have HK := Lib.hid (show kOk k = false from decide_eq_false (by omega))
    go_enter Tryz.func40, Tryz.ntmps40
    go_wp2
    go_ret
    exact ⟨by rw [HR.out, HK.out]; rfl, HO.out⟩
  have hcase : ((k == 2) = false ∧ (k == 3) = false ∧ (k != 2) = true ∧ (k != 3) = true ∧ r = (ns && (decide (y = ⟨#[]⟩) && decide (vk = 0 ∧ vn = 0)))) ∨ (k = 2 ∧ r = (ns && (ny && mv))) ∨ (k = 3 ∧ r = (ns && ((ny && mv) && decide (vk = 1)))) := by
    rw [HR.out, show kOk k = true from decide_eq_true (by omega)]
    by_cases h2 : k = 2
    · subst h2; exact .inr (.inl ⟨rfl, by simp [kO]⟩)
    · by_cases h3 : k = 3
      · subst h3; exact .inr (.inr ⟨rfl, by simp [kO]; by_cases h : vk = 1 <;> simp [h]⟩)
      · exact .inl ⟨by simp [h2], by simp [h3], by simp [h2], by simp [h3], by simp [kO, h2, h3]⟩
  clear HR
  rcases hcase with ⟨q1, q2, q3, q4, q5⟩ | ⟨rfl, q5⟩ | ⟨rfl, q5⟩
  all_goals
    have HQ := Lib.hid q5
    clear q5
    go_enter Tryz.func40, Tryz.ntmps40
    go_wp2_with fail
    refine (HS.out _).mono ?_
    rintro e w1 ⟨rfl, O1⟩
    have HO1 := Lib.hid (HO.out.trans O1)
    have bE1 := O1.blk HE.out (by simp)
    have lE := bE1.lt
    have f0 := bE1.at_ 0
    have f2 := bE1.at_ 2
    have f3 := bE1.at_ 3
    have f4 := bE1.at_ 4
    simp at f0 f2 f3 f4
    clear O1
    cases ns with
    | false =>
      go_wp2
      go_ret
      exact ⟨by rw [HQ.out]; rfl, HO1.out⟩
    | true => ?_
  · by_cases hy0 : y = ⟨#[]⟩
    · subst hy0
      by_cases h1 : vk = 0
      · subst h1
        by_cases h2 : vn = 0
        · subst h2
          go_wp2
          go_ret
          exact ⟨by rw [HQ.out]; rfl, HO1.out⟩
        · have h2' : (vn == 0) = false := by simpa using h2
          have HX := Lib.hid h2
          clear h2
          go_wp2
          go_ret
          exact ⟨by rw [HQ.out]; simp [HX.out], HO1.out⟩
      · have h1' : (vk == 0) = false := by simpa using h1
        have HX := Lib.hid h1
        clear h1
        go_wp2
        go_ret
        exact ⟨by rw [HQ.out]; simp [HX.out], HO1.out⟩
    · have h0' : (y.toList == []) = false := (ev_ne (l := []) hy0).1
      have HX := Lib.hid hy0
      clear hy0
      go_wp2
      go_ret
      exact ⟨by rw [HQ.out]; simp [HX.out], HO1.out⟩
  · clear hk1 hk6
    go_wp2_with fail
    refine (HY.out _).mono ?_
    rintro e w3 ⟨rfl, O3⟩
    have HO3 := Lib.hid (HO1.out.trans O3)
    have bE3 := O3.blk bE1 (by simp)
    clear f0 f2 f3 f4 lE O3
    have lE := bE3.lt
    have f0 := bE3.at_ 0
    have f3 := bE3.at_ 3
    have f4 := bE3.at_ 4
    simp at f0 f3 f4
    cases ny with
    | false =>
      go_wp2
      go_ret
      exact ⟨by rw [HQ.out]; rfl, HO3.out⟩
    | true =>
      go_wp2_with fail
      refine (HM.out _).mono ?_
      rintro e w4 ⟨rfl, O4⟩
      have HO4 := Lib.hid (HO3.out.trans O4)
      have bE4 := O4.blk bE3 (by simp)
      clear f0 f3 f4 lE O4
      have lE := bE4.lt
      have f0 := bE4.at_ 0
      simp at f0
      cases mv <;>
      · go_wp2
        go_ret
        exact ⟨by rw [HQ.out]; rfl, HO4.out⟩
  · clear hk1 hk6
    go_wp2_with fail
    refine (HY.out _).mono ?_
    rintro e w3 ⟨rfl, O3⟩
    have HO3 := Lib.hid (HO1.out.trans O3)
    have bE3 := O3.blk bE1 (by simp)
    clear f0 f2 f3 f4 lE O3
    have lE := bE3.lt
    have f0 := bE3.at_ 0
    have f3 := bE3.at_ 3
    have f4 := bE3.at_ 4
    simp at f0 f3 f4
    cases ny with
    | false =>
      go_wp2
      go_ret
      exact ⟨by rw [HQ.out]; rfl, HO3.out⟩
    | true =>
      go_wp2_with fail
      refine (HM.out _).mono ?_
      rintro e w4 ⟨rfl, O4⟩
      have HO4 := Lib.hid (HO3.out.trans O4)
      have bE4 := O4.blk bE3 (by simp)
      clear f0 f3 f4 lE O4
      have lE := bE4.lt
      have f0 := bE4.at_ 0
      have f3 := bE4.at_ 3
      simp at f0 f3
      cases mv with
      | false =>
        go_wp2
        go_ret
        exact ⟨by rw [HQ.out]; rfl, HO4.out⟩
      | true =>
        by_cases h1 : vk = 1
        · subst h1
          go_wp2
          go_ret
          exact ⟨by rw [HQ.out]; rfl, HO4.out⟩
        · have h1' : (vk == 1) = false := by simpa using h1
          have HX := Lib.hid h1
          clear h1
          go_wp2
          go_ret
          exact ⟨by rw [HQ.out]; simp [HX.out], HO4.out⟩

set_option maxRecDepth 10000 in
set_option maxHeartbeats 4000000 in
theorem revprint_any (k : Int) (s y : ByteArray) (vk vn ln : Int) (w : World) (hs : s.size ≤ 2000) (hy : y.size ≤ 2000) (h1 : -9223372036854775808 ≤ vn) (h2 : vn ≤ 9223372036854775807) :
    Calls Tryz.prog 41 #[.agg #[.int .i64 k, .string s, .string y, .int .i64 vk, .int .i64 vn, .int .i64 ln]] w fun e w' => e = .returned (.tuple #[.string (evText k s y vk vn), .int .i64 (evErr k s y vk vn)]) ∧ Only [] w w' := by
  have HMY := Lib.hid (fun w' => revmay_any k s y vk vn ln w' (by omega) (by omega))
  have HVP := Lib.hid (fun w' => rvprint_any vk vn w' h1 h2)
  have HKI := Lib.hid (fun w' => rkinds_any w')
  unfold evText evErr
  obtain ⟨ok, hok⟩ : ∃ x, x = evOk k s y vk vn := ⟨_, rfl⟩
  obtain ⟨T, hTT⟩ : ∃ x, x = (⟨(joinW (evWords k s y vk vn)).toArray⟩ : ByteArray) := ⟨_, rfl⟩
  rw [← hok, ← hTT]
  rw [← hok] at HMY
  have HTX := Lib.hid hTT
  have HOKK : Hid (ok = true → k = 1 ∨ k = 2 ∨ k = 3 ∨ k = 4 ∨ k = 5 ∨ k = 6) := Lib.hid (fun h => by
    rw [hok] at h
    unfold evOk kOk at h
    simp at h
    omega)
  have HVL := Lib.hid (vText_len vk vn h1 h2)
  have HO := Lib.hid ((Only.refl [] w).alloc (.cells #[.int .i64 k, .string s, .string y, .int .i64 vk, .int .i64 vn, .int .i64 ln] 47))
  have HE := Lib.hid (Blk.made w 47 #[.int .i64 k, .string s, .string y, .int .i64 vk, .int .i64 vn, .int .i64 ln])
  clear hok hTT h1 h2
  go_enter Tryz.func41, Tryz.ntmps41
  go_wp2_with fail
  refine (HMY.out _).mono ?_
  rintro e w1 ⟨rfl, O1⟩
  have HO1 := Lib.hid (HO.out.trans O1)
  have bE1 := O1.blk HE.out (by simp)
  have lE := bE1.lt
  have f0 := bE1.at_ 0
  have f1 := bE1.at_ 1
  have f2 := bE1.at_ 2
  have f3 := bE1.at_ 3
  have f4 := bE1.at_ 4
  simp at f0 f1 f2 f3 f4
  clear O1
  cases ok with
  | false =>
    go_wp2
    go_ret2
    exact ⟨rfl, HO1.out⟩
  | true =>
    obtain ⟨m, rfl, hm1, hm6⟩ : ∃ m : Nat, k = (m : Int) ∧ 1 ≤ m ∧ m ≤ 6 := ⟨k.toNat, by have := HOKK.out rfl; omega, by have := HOKK.out rfl; omega, by have := HOKK.out rfl; omega⟩
    have HKC : Hid (kindC[m]? = some (.string (kW (m : Int)))) := Lib.hid (kind_at m hm1 hm6)
    have hks := kW_size (m : Int)
    have hcs : (kO (m : Int) = false ∧ ((m : Int) == 2) = false ∧ ((m : Int) == 3) = false) ∨ (kO (m : Int) = true ∧ m = 2) ∨ (kO (m : Int) = true ∧ m = 3) := by
      by_cases h2 : m = 2
      · exact .inr (.inl ⟨by subst h2; rfl, h2⟩)
      · by_cases h3 : m = 3
        · exact .inr (.inr ⟨by subst h3; rfl, h3⟩)
        · exact .inl ⟨decide_eq_false (by omega), by simp; omega, by simp; omega⟩
    have HCS := Lib.hid hcs
    obtain ⟨kw, hkw⟩ : ∃ x, x = kW (m : Int) := ⟨_, rfl⟩
    rw [← hkw] at HKC hks
    have HKW := Lib.hid hkw
    have HKIN := Lib.hid (Blk.made w1 9 kindC)
    have hsz1 : ¬ (9223372036854775807 < kw.size + 1) := by omega
    have hsz2 : ¬ (9223372036854775807 < kw.size + 1 + s.size) := by omega
    have hsz3 : ¬ (9223372036854775807 < (kw ++ (ByteArray.mk #[32])).size + s.size) := by rw [ByteArray.size_append]; show ¬ (9223372036854775807 < kw.size + 1 + s.size); omega
    have hm7 : (m : Int) < 7 := by omega
    have hm0 : (0 : Int) ≤ (m : Int) := by omega
    clear hcs hkw HOKK
    go_upto_region 3 with (fail)
    refine wp_region_noPanic ?_
    refine wp_region_timed (F := [⟨[], [], fun w' => Only [] w1 w'⟩, ⟨[0], [], fun w' => Blk w' w1.heap.size 9 kindC⟩]) (by kernel_rfl) (timed_holds ((Only.refl [] w1).drew) (timed_waits (by kernel_rfl) (timed_nil))) ?_
    refine timed_pure (i := 1) (v := ?_) rfl (by kernel_rfl) (by kernel_rfl) (by kernel_rfl) (fun _ _ _ h => h) (by kernel_rfl) (by kernel_rfl) ?_ ?_
    rotate_left
    · (intro w; go_simp; try with_reducible rfl)
    try simp only [Act.put, List.getElem_toArray, List.getElem_cons_zero, List.getElem_cons_succ, List.setIfInBounds_toArray, List.set_cons_zero, List.set_cons_succ]
    refine timed_read (i := 2) (v := ?_) 0 rfl (by kernel_rfl) (by kernel_rfl) (by kernel_rfl) (fun _ _ _ h => h) (by kernel_rfl) (by kernel_rfl) rfl (by kernel_rfl) ?_ ?_
    rotate_left
    · (intro wq hSw; (try dsimp only at hSw); first | (have hc := (hSw.blk bE1 (by simp)).at_ 0; have hc1 := (hSw.blk bE1 (by simp)).at_ 1; simp at hc hc1; clear hSw; go_simp; try with_reducible rfl) | (have hc := (hSw.at_ m).trans HKC.out; clear hSw; go_simp; try with_reducible rfl))
    try simp only [Act.put, List.getElem_toArray, List.getElem_cons_zero, List.getElem_cons_succ, List.setIfInBounds_toArray, List.set_cons_zero, List.set_cons_succ]
    refine timed_pure (i := 6) (v := ?_) rfl (by kernel_rfl) (by kernel_rfl) (by kernel_rfl) (fun _ _ _ h => h) (by kernel_rfl) (by kernel_rfl) ?_ ?_
    rotate_left
    · (intro w; go_simp; try with_reducible rfl)
    try simp only [Act.put, List.getElem_toArray, List.getElem_cons_zero, List.getElem_cons_succ, List.setIfInBounds_toArray, List.set_cons_zero, List.set_cons_succ]
    refine timed_read (i := 7) (v := ?_) 0 rfl (by kernel_rfl) (by kernel_rfl) (by kernel_rfl) (fun _ _ _ h => h) (by kernel_rfl) (by kernel_rfl) rfl (by kernel_rfl) ?_ ?_
    rotate_left
    · (intro wq hSw; (try dsimp only at hSw); first | (have hc := (hSw.blk bE1 (by simp)).at_ 0; have hc1 := (hSw.blk bE1 (by simp)).at_ 1; simp at hc hc1; clear hSw; go_simp; try with_reducible rfl) | (have hc := (hSw.at_ m).trans HKC.out; clear hSw; go_simp; try with_reducible rfl))
    try simp only [Act.put, List.getElem_toArray, List.getElem_cons_zero, List.getElem_cons_succ, List.setIfInBounds_toArray, List.set_cons_zero, List.set_cons_succ]
    refine timed_step (i := 0) (by kernel_rfl) rfl (fun K hK => ?_)
    go_simp
    refine (HKI.out _).mono ?_
    rintro e w3 ⟨rfl, rfl⟩
    refine hK.out _ _ (timed_holds (((Only.refl [] w1).drew).alloc _) (timed_holds (Blk.made w1.drew 9 kindC) (timed_nil))) ?_
    clear hK K
    try simp only [Act.put, List.getElem_toArray, List.getElem_cons_zero, List.getElem_cons_succ, List.setIfInBounds_toArray, List.set_cons_zero, List.set_cons_succ]
    refine timed_pure (i := 3) (v := ?_) rfl (by kernel_rfl) (by kernel_rfl) (by kernel_rfl) (fun _ _ _ h => h) (by kernel_rfl) (by kernel_rfl) ?_ ?_
    rotate_left
    · (intro w; go_simp; try with_reducible rfl)
    try simp only [Act.put, List.getElem_toArray, List.getElem_cons_zero, List.getElem_cons_succ, List.setIfInBounds_toArray, List.set_cons_zero, List.set_cons_succ]
    refine timed_read (i := 4) (v := ?_) 1 rfl (by kernel_rfl) (by kernel_rfl) (by kernel_rfl) (fun _ _ _ h => h) (by kernel_rfl) (by kernel_rfl) rfl (by kernel_rfl) ?_ ?_
    rotate_left
    · (intro wq hSw; (try dsimp only at hSw); first | (have hc := (hSw.blk bE1 (by simp)).at_ 0; have hc1 := (hSw.blk bE1 (by simp)).at_ 1; simp at hc hc1; clear hSw; go_simp; try with_reducible rfl) | (have hc := (hSw.at_ m).trans HKC.out; clear hSw; go_simp; try with_reducible rfl))
    try simp only [Act.put, List.getElem_toArray, List.getElem_cons_zero, List.getElem_cons_succ, List.setIfInBounds_toArray, List.set_cons_zero, List.set_cons_succ]
    refine timed_pure (i := 5) (v := ?_) rfl (by kernel_rfl) (by kernel_rfl) (by kernel_rfl) (fun _ _ _ h => h) (by kernel_rfl) (by kernel_rfl) ?_ ?_
    rotate_left
    · (intro w; go_simp; try with_reducible rfl)
    try simp only [Act.put, List.getElem_toArray, List.getElem_cons_zero, List.getElem_cons_succ, List.setIfInBounds_toArray, List.set_cons_zero, List.set_cons_succ]
    refine timed_pure (i := 8) (v := ?_) rfl (by kernel_rfl) (by kernel_rfl) (by kernel_rfl) (fun _ _ _ h => h) (by kernel_rfl) (by kernel_rfl) ?_ ?_
    rotate_left
    · (intro w; go_simp; try with_reducible rfl)
    try simp only [Act.put, List.getElem_toArray, List.getElem_cons_zero, List.getElem_cons_succ, List.setIfInBounds_toArray, List.set_cons_zero, List.set_cons_succ]
    refine timed_pure (i := 9) (v := ?_) rfl (by kernel_rfl) (by kernel_rfl) (by kernel_rfl) (fun _ _ _ h => h) (by kernel_rfl) (by kernel_rfl) ?_ ?_
    rotate_left
    · (intro w; go_simp; try with_reducible rfl)
    try simp only [Act.put, List.getElem_toArray, List.getElem_cons_zero, List.getElem_cons_succ, List.setIfInBounds_toArray, List.set_cons_zero, List.set_cons_succ]
    refine timed_done (by kernel_rfl) ?_ _
    refine NoPanic.normal ?_
    have O2 : Only [] w1 (w1.drew.alloc (.cells kindC 9)) := ((Only.refl [] w1).drew).alloc _
    have HO2 := Lib.hid (HO1.out.trans O2)
    have bE2 := O2.blk bE1 (by simp)
    clear f0 f1 f2 f3 f4 lE bE1 O2 HKIN HKC
    have hbb : (w1.drew.heap.size) = w1.heap.size := rfl
    generalize (w1.drew.alloc (.cells kindC 9)) = w2 at *
    have lE := bE2.lt
    have f0 := bE2.at_ 0
    have f2 := bE2.at_ 2
    have f3 := bE2.at_ 3
    have f4 := bE2.at_ 4
    simp at f0 f2 f3 f4
    rcases HCS.out with ⟨q1, q2, q3⟩ | ⟨q1, rfl⟩ | ⟨q1, rfl⟩
    · have HT : Hid (kw ++ ⟨#[32]⟩ ++ s = T) := Lib.hid (by
        rw [HTX.out, HKW.out]
        apply by_inj
        rw [by_append, by_append]
        unfold evWords
        rw [q1]
        simp [joinW, Lib.join]
        rfl)
      clear q1 HCS
      go_wp2
      go_ret2
      exact ⟨by rw [HT.out]; rfl, HO2.out⟩
    all_goals
      obtain ⟨vt, hvt⟩ : ∃ x, x = (⟨(vText vk vn).toArray⟩ : ByteArray) := ⟨_, rfl⟩
      have HT : Hid (kw ++ ⟨#[32]⟩ ++ s ++ (⟨#[32]⟩ ++ y ++ ⟨#[32]⟩ ++ vt) = T) := Lib.hid (by
        rw [HTX.out, HKW.out, hvt]
        apply by_inj
        simp only [by_append]
        unfold evWords
        rw [q1]
        simp [joinW, Lib.join]
        rfl)
      have hvl : vt.size ≤ 21 := by rw [hvt]; simpa [ByteArray.size] using HVL.out
      rw [← hvt] at HVP
      generalize vErr vk vn = ve at *
      clear q1 HCS hvt
      go_wp2_with fail
      refine (HVP.out _).mono ?_
      rintro e w3 ⟨rfl, O3⟩
      have HO3 := Lib.hid (HO2.out.trans O3)
      have bE3 := O3.blk bE2 (by simp)
      clear lE f0 f2 f3 f4 O3
      have lE := bE3.lt
      have f2 := bE3.at_ 2
      simp at f2
      have g1 : ¬ (9223372036854775807 < 1 + y.size) := by omega
      have g2 : ¬ (9223372036854775807 < 1 + y.size + 1) := by omega
      have g3 : ¬ (9223372036854775807 < 1 + y.size + 1 + vt.size) := by omega
      have g4 : ¬ (9223372036854775807 < kw.size + 1 + s.size + (1 + y.size + 1 + vt.size)) := by omega
      go_wp2
      go_ret2
      exact ⟨by rw [HT.out]; rfl, HO3.out⟩

end Go.Proofs.YthaeomdpaadilaaGreatDoor

set_option linter.unusedVariables false
set_option linter.unusedSimpArgs false
namespace Go.Proofs.YthaeomdpaadilaaGreatDoor
open Go.RowKit
open Go.Lib hiding intOf
attribute [local go_sem ↓] Go.wp_at_zero Go.wp_at_succ

set_option maxRecDepth 100000 in
set_option maxHeartbeats 4000000 in
theorem rlogprint_any (A : Option Addr) (n c B : Nat) (l : List Ev6) (w : World) (hn : l.length = n) (hnm : n ≤ 1000000) (hz : ∀ x ∈ l, EvB x) (hA : Row w B A (logC l)) :
    Calls Tryz.prog 22 #[.slice A n c] w fun e w' => e = .returned (.tuple #[.string (logPrint l).1, .int .i64 (logPrint l).2]) ∧ Only [] w w' := by
  have HMY := Lib.hid (fun (x : Ev6) w' (hx : EvB x) => revmay_any x.k x.s x.y x.vk x.vn x.ln w' (by have := hx.s; omega) (by have := hx.y; omega))
  have HPR := Lib.hid (fun (x : Ev6) w' (hx : EvB x) => revprint_any x.k x.s x.y x.vk x.vn x.ln w' hx.s hx.y hx.n1 hx.n2)
  obtain ⟨r, hr⟩ : ∃ r, r = logPrint l := ⟨_, rfl⟩
  rw [← hr]
  have HR := Lib.hid hr
  have HN := Lib.hid hn
  have HZ := Lib.hid hz
  have HROW := Lib.hid hA
  clear hn hz hA hr
  go_enter Tryz.func22, Tryz.ntmps22
  go_wp2_with fail
  go_loopw [4] (fun iv wr => ∃ (k : Nat), iv = .int .i64 k ∧ k ≤ n ∧ Hid (∀ j x, j < k → l[j]? = some x → okE x = true) ∧ Hid (Only [] w wr)) (fun iv _ => n - (intOf iv).toNat)
  case atStart => exact ⟨0, rfl, by omega, Lib.hid (fun j x h _ => by omega), Lib.hid (Only.refl [] w)⟩
  case round =>
    obtain ⟨k, rfl, hk, hall, hO⟩ := hrel
    by_cases hlt : k < n
    · have h01 : (k : Int) < (n : Int) := by omega
      have hk0 : (0 : Int) ≤ (k : Int) := Int.natCast_nonneg _
      have hwk : IntKind.i64.wrap ((k : Int) + 1) = (k : Int) + 1 := IntWalk.i64_in _ (by omega)
      obtain ⟨x, hx⟩ : ∃ x, l[k]? = some x := ⟨_, List.getElem?_eq_getElem (by rw [HN.out]; exact hlt)⟩
      obtain ⟨b, off, rfl, -, hbw, h1⟩ := row_ev HROW.out hx
      obtain ⟨a0, a1, a2, a3, a4, a5⟩ := h1.only hO.out hbw (by simp)
      have HM1 := Lib.hid (fun w' => HMY.out x w' (HZ.out x (List.mem_of_getElem? hx)))
      have HX := Lib.hid hx
      obtain ⟨ok, hok⟩ : ∃ v, v = okE x := ⟨_, rfl⟩
      have hok2 : evOk x.k x.s x.y x.vk x.vn = ok := hok.symm
      rw [hok2] at HM1
      have HOK := Lib.hid hok
      obtain ⟨xk, xs, xy, xvk, xvn, xln⟩ := x
      dsimp only at a0 a1 a2 a3 a4 a5 HM1
      clear hx h1 hok hok2
      go_wp2_with fail
      refine (HM1.out _).mono ?_
      rintro e w2 ⟨rfl, O2⟩
      have HO2 := Lib.hid (hO.out.trans O2)
      clear a0 a1 a2 a3 a4 a5 O2
      cases ok with
      | false =>
        obtain rfl : r = (⟨#[]⟩, 4) := by
          rw [HR.out]
          unfold logPrint
          rw [if_neg]
          intro h
          have := List.all_eq_true.1 h _ (List.mem_of_getElem? HX.out)
          rw [← HOK.out] at this
          cases this
        go_wp2
        go_ret2
        exact ⟨rfl, HO2.out⟩
      | true =>
        go_wp2
        go_roundw
        case rel =>
          refine ⟨k + 1, by go_num, by omega, Lib.hid (fun j y h hy => ?_), HO2⟩
          rcases Nat.lt_or_ge j k with h2 | h2
          · exact hall.out j y h2 hy
          · have : j = k := by omega
            subst this
            rw [HX.out] at hy
            obtain rfl := Option.some.inj hy
            exact HOK.out.symm
        case measure => simp [intOf]; omega
    · have hkn : k = n := by omega
      subst hkn
      have hd : decide ((k : Int) < (k : Int)) = false := by simp
      have HALL : Hid (l.all okE = true) := Lib.hid (List.all_eq_true.2 fun x hx => by
        obtain ⟨j, hj⟩ := List.getElem?_of_mem hx
        exact hall.out j x (by rw [← HN.out]; exact (List.getElem?_eq_some_iff.1 hj).1) hj)
      have HRR : Hid (r = match printOf l [] with | some t => (⟨t.toArray⟩, 0) | none => (⟨#[]⟩, 6)) := Lib.hid (by rw [HR.out]; unfold logPrint; rw [if_pos HALL.out]; cases printOf l [] <;> rfl)
      obtain ⟨wo, hwo⟩ : ∃ wo : World, wo = wr := ⟨_, rfl⟩
      subst hwo
      clear hall HR HALL hlt
      go_wp2_with fail
      go_loopw [5, 6] (fun tv iv wr => ∃ (j : Nat) (acc : ByteArray), iv = .int .i64 j ∧ tv = .string acc ∧ j ≤ k ∧ acc.size ≤ 65536 ∧ Hid (printOf l [] = printOf (l.drop j) (by_ acc)) ∧ Hid (Only [] w wr)) (fun _ iv _ => k - (intOf iv).toNat)
      case atStart => exact ⟨0, ⟨#[]⟩, rfl, rfl, by omega, by decide, Lib.hid rfl, hO⟩
      case round =>
        obtain ⟨j, acc, rfl, rfl, hj, hacc, hP, hO'⟩ := hrel
        by_cases hlt : j < k
        · have h01 : (j : Int) < (k : Int) := by omega
          have hj0 : (0 : Int) ≤ (j : Int) := Int.natCast_nonneg _
          have hwj : IntKind.i64.wrap ((j : Int) + 1) = (j : Int) + 1 := IntWalk.i64_in _ (by omega)
          obtain ⟨x, hx⟩ : ∃ x, l[j]? = some x := ⟨_, List.getElem?_eq_getElem (by rw [HN.out]; exact hlt)⟩
          obtain ⟨b, off, rfl, -, hbw, h1⟩ := row_ev HROW.out hx
          obtain ⟨a0, a1, a2, a3, a4, a5⟩ := h1.only hO'.out hbw (by simp)
          have hbx := HZ.out x (List.mem_of_getElem? hx)
          have hts : (evT x).size ≤ 5000 := evT_size hbx
          have HP1 := Lib.hid (fun w' => HPR.out x w' hbx)
          have hpo : printOf (l.drop j) (by_ acc) = if 65536 < (by_ acc).length + (evT x).size + 1 then none else printOf (l.drop (j + 1)) (by_ acc ++ by_ (evT x) ++ [10]) := by
            obtain ⟨h1, h2⟩ := List.getElem?_eq_some_iff.1 hx
            rw [List.drop_eq_getElem_cons h1, h2]
            rfl
          have HPO := Lib.hid (hP.out.trans hpo)
          have hte : evText x.k x.s x.y x.vk x.vn = evT x := rfl
          rw [hte] at HP1
          generalize evT x = T at *
          generalize evErr x.k x.s x.y x.vk x.vn = ve at *
          obtain ⟨xk, xs, xy, xvk, xvn, xln⟩ := x
          dsimp only at a0 a1 a2 a3 a4 a5 HP1
          clear hx h1 hbx hpo hte
          go_wp2_with fail
          refine (HP1.out _).mono ?_
          rintro e w3 ⟨rfl, O3⟩
          have HO3 := Lib.hid (hO'.out.trans O3)
          have q1 : ¬ (9223372036854775807 < T.size + 1) := by omega
          have q2 : ¬ (9223372036854775807 < acc.size + (T.size + 1)) := by omega
          have hnew : (acc ++ (T ++ (⟨#[10]⟩ : ByteArray))).size = acc.size + T.size + 1 := by rw [ByteArray.size_append, ByteArray.size_append]; show acc.size + (T.size + 1) = _; omega
          have hnb : by_ (acc ++ (T ++ (⟨#[10]⟩ : ByteArray))) = by_ acc ++ by_ T ++ [10] := by rw [by_append, by_append, List.append_assoc]; rfl
          have HNB := Lib.hid hnb
          have HNS := Lib.hid hnew
          clear a0 a1 a2 a3 a4 a5 O3 HP1 hnb hnew
          by_cases hlong : 65536 < acc.size + T.size + 1
          · have hl1 : (65536 : Int) < (acc.size : Int) + ((T.size : Int) + 1) := by omega
            have hl2 : 65536 < acc.size + (T.size + 1) := by omega
            obtain rfl : r = (⟨#[]⟩, 6) := by rw [HRR.out, HPO.out, if_pos (by rw [by_length]; exact hlong)]
            clear HRR HPO hlong
            go_wp2
            go_ret2
            exact ⟨rfl, HO3.out⟩
          · have hl1 : decide ((65536 : Int) < (acc.size : Int) + ((T.size : Int) + 1)) = false := decide_eq_false (by omega)
            have hl2 : decide (65536 < acc.size + (T.size + 1)) = false := decide_eq_false (by omega)
            have HP2 : Hid (printOf l [] = printOf (l.drop (j + 1)) (by_ (acc ++ (T ++ (⟨#[10]⟩ : ByteArray))))) := Lib.hid (by rw [HPO.out, if_neg (by rw [by_length]; exact hlong), HNB.out])
            clear hlong HPO
            go_wp2
            go_roundw
            case rel => exact ⟨j + 1, acc ++ (T ++ (⟨#[10]⟩ : ByteArray)), by go_num, rfl, by omega, by rw [HNS.out]; simp at hl2; omega, HP2, HO3⟩
            case measure => simp [intOf]; omega
        · have hjk : j = k := by omega
          subst hjk
          have hd2 : decide ((j : Int) < (j : Int)) = false := by simp
          have hpr : printOf l [] = some (by_ acc) := by rw [hP.out, List.drop_of_length_le (by rw [HN.out]; exact Nat.le_refl _)]; rfl
          obtain rfl : r = (acc, 0) := by rw [HRR.out, hpr]; rfl
          clear hpr HRR hP
          go_wp2
          go_ret2
          exact ⟨rfl, hO'.out⟩

end Go.Proofs.YthaeomdpaadilaaGreatDoor

set_option linter.unusedVariables false
set_option linter.unusedSimpArgs false
namespace Go.Proofs.YthaeomdpaadilaaGreatDoor
open Go.RowKit
open Go.Lib hiding intOf
attribute [local go_sem ↓] Go.wp_at_zero Go.wp_at_succ

set_option maxRecDepth 10000 in
set_option maxHeartbeats 4000000 in
theorem sadd_any (k vk vn ln : Int) (s y : ByteArray) (Bl base : Nat) (V : Value) (l : List Ev6) (w : World)
    (hB : Blk w Bl 27 #[V]) (hown : w.ownsRow base 47 6 V l.length (logC l)) (hbase : base ≤ w.heap.size) (hl : l.length ≤ 1000000) :
    Calls Tryz.prog 18 #[.agg #[.int .i64 k, .string s, .string y, .int .i64 vk, .int .i64 vn, .int .i64 ln], .pointer (some ⟨Bl, 0, none⟩)] w fun e w' => e = .returned (.tuple #[]) ∧
      ∃ V', Blk w' Bl 27 #[V'] ∧ w'.ownsRow base 47 6 V' (l.length + 1) (logC (l ++ [⟨k, s, y, vk, vn, (l.length : Int) + 1⟩])) ∧ Only (Bl :: V.ownBlock.toList) w w' := by
  obtain ⟨i0, hi, hz0, hz1, hz2⟩ := info_parts info_event
  obtain ⟨A, c, hVs, hc1, hc2, hcl, -⟩ := own_row hown
  have hapart := own_apart hown hB (by decide)
  subst hVs
  have HOWN := Lib.hid hown
  have HBL := Lib.hid hB
  generalize hm : l.length = m at *
  have hwm : IntKind.i64.wrap ((m : Int) + 1) = (m : Int) + 1 := IntWalk.i64_in _ (by omega)
  clear hown hB hcl
  go_enter Tryz.func18, Tryz.ntmps18
  have lB := HBL.out.lt
  have cB := HBL.out.at_ 0
  simp at cB lB
  have HROW : Hid (Row ((w.alloc (.cells #[.int .i64 k, .string s, .string y, .int .i64 vk, .int .i64 vn, .int .i64 ((m : Int) + 1)] 47)).alloc (.cells #[.int .i64 k, .string s, .string y, .int .i64 vk, .int .i64 vn, .int .i64 ((m : Int) + 1)] 47)) (w.heap.size + 1 + 1) (some ⟨w.heap.size + 1, 0, none⟩) [.int .i64 k, .string s, .string y, .int .i64 vk, .int .i64 vn, .int .i64 ((m : Int) + 1)]) := Lib.hid (by
    have h := row_lit (w.alloc (.cells #[.int .i64 k, .string s, .string y, .int .i64 vk, .int .i64 vn, .int .i64 ((m : Int) + 1)] 47)) 47 #[.int .i64 k, .string s, .string y, .int .i64 vk, .int .i64 vn, .int .i64 ((m : Int) + 1)]
    simpa using h)
  have HO3 : Hid (Only [] w ((w.alloc (.cells #[.int .i64 k, .string s, .string y, .int .i64 vk, .int .i64 vn, .int .i64 ((m : Int) + 1)] 47)).alloc (.cells #[.int .i64 k, .string s, .string y, .int .i64 vk, .int .i64 vn, .int .i64 ((m : Int) + 1)] 47))) := Lib.hid (((Only.refl [] w).alloc _).alloc _)
  go_wp2_with (
    at_builtin
    refine wpList_append_row _ rfl (.tmp 7) (.tmp 9) _ rfl base 47 i0 _ 6 64 Tryz.underlying27 hi hz0 hz1 hz2 rfl (by omega) _ m (logC l) rfl (own_only HOWN.out HO3.out (by simp)) (w.heap.size + 1 + 1) (some ⟨w.heap.size + 1, 0, none⟩) 1 1 [.int .i64 k, .string s, .string y, .int .i64 vk, .int .i64 vn, .int .i64 ((m : Int) + 1)] (by rfl) (by rfl) HROW.out (by intro u hu; simp at hu; rcases hu with rfl | rfl | rfl | rfl | rfl | rfl <;> rfl) (by unfold maxLen; omega) (by omega) (by simp; omega) ?_
    intro v4 w4 hown4 hgrow hat
    obtain ⟨A4, c4, rfl, -, -, -, -⟩ := own_row hown4
    have b4 := (only_grown hgrow).blk ((HBL.out.alloc (.cells #[.int .i64 k, .string s, .string y, .int .i64 vk, .int .i64 vn, .int .i64 ((m : Int) + 1)] 47)).alloc (.cells #[.int .i64 k, .string s, .string y, .int .i64 vk, .int .i64 vn, .int .i64 ((m : Int) + 1)] 47)) hapart
    have O4 := (HO3.out.wide (T := (Value.slice A m c).ownBlock.toList) (fun i hi => by cases hi)).step (only_grown hgrow) (fun i hi _ => hi)
    have HB4 := Lib.hid b4
    have HO4 := Lib.hid O4
    have HOWN4 := Lib.hid hown4
    have l4 := b4.lt
    have d4 := b4.at_ 0
    have g4 := b4.free 0
    simp at d4
    clear b4 O4 hown4 hat hgrow)
  go_end0
  have hap4 := own_apart HOWN4.out HB4.out (by decide)
  refine ⟨rfl, _, HB4.out.put 0 _, ?_, (HO4.out.wide (fun i hi _ => by simp [hi])).put (p := ⟨Bl, 0, none⟩) (fun _ => by simp) _⟩
  have h5 := own_only HOWN4.out ((Only.refl [Bl] w4).put (p := ⟨Bl, 0, none⟩) (fun _ => by simp) (.slice A4 (m + 1) c4)) (fun g hg hm => by
    simp at hm
    subst hm
    exact hap4 (by rw [hg]; simp))
  rw [logC_snoc]
  exact h5
end Go.Proofs.YthaeomdpaadilaaGreatDoor
