/- Contracts of the package event: Print. Events printed are read back: the mathematics. -/
import Derived.Test.YthaeomdpaadilaaGreatDoorShowBackCardK11
import Derived.Test.YthaeomdpaadilaaGreatDoorShowBackCardK14
import Derived.Test.YthaeomdpaadilaaGreatDoorShowBackCardK17
import Derived.Lib.ItoaLen
import Derived.Test.YthaeomdpaadilaaGreatDoorShowBackCardK18
set_option linter.unusedVariables false
set_option linter.unusedSimpArgs false
namespace Go.Proofs.YthaeomdpaadilaaGreatDoor
open Go.RowKit
open Go.Lib hiding intOf
attribute [local go_sem ↓] Go.wp_at_zero Go.wp_at_succ

/-- An event's line. -/
def evWords (k : Int) (s y : ByteArray) (vk vn : Int) : List ByteArray := if kO k = true then [kW k, s, y, ⟨(vText vk vn).toArray⟩] else [kW k, s]
def evText (k : Int) (s y : ByteArray) (vk vn : Int) : ByteArray := if evOk k s y vk vn = true then ⟨(joinW (evWords k s y vk vn)).toArray⟩ else ⟨#[]⟩
def evErr (k : Int) (s y : ByteArray) (vk vn : Int) : Int := if evOk k s y vk vn = true then 0 else 4

theorem kW_size (k : Int) : (kW k).size ≤ 5 := by
  unfold kW
  repeat' split
  all_goals decide
theorem vText_len (k n : Int) (h1 : -9223372036854775808 ≤ n) (h2 : n ≤ 9223372036854775807) : (vText k n).length ≤ 21 := by
  have := Lib.itoa_length_le n h1 h2
  unfold vText
  repeat' split
  all_goals first | omega | simp
theorem evWords_len (k : Int) (s y : ByteArray) (vk vn : Int) (h1 : -9223372036854775808 ≤ vn) (h2 : vn ≤ 9223372036854775807) (hs : s.size ≤ 2000) (hy : y.size ≤ 2000) : (joinW (evWords k s y vk vn)).length ≤ 5000 := by
  refine Nat.le_trans (joinW_sum _) ?_
  have a := kW_size k
  have b := vText_len vk vn h1 h2
  have c : (ByteArray.mk (vText vk vn).toArray).size = (vText vk vn).length := by simp [ByteArray.size]
  unfold evWords
  split
  · simp only [List.map_cons, List.map_nil, List.sum_cons, List.sum_nil, c]; omega
  · simp only [List.map_cons, List.map_nil, List.sum_cons, List.sum_nil]; omega

set_option maxRecDepth 10000 in
set_option maxHeartbeats 4000000 in
theorem evprint_any (k : Int) (s y : ByteArray) (vk vn ln : Int) (w : World) (hs : s.size ≤ 2000) (hy : y.size ≤ 2000) (h1 : -9223372036854775808 ≤ vn) (h2 : vn ≤ 9223372036854775807) (hT : UTabs w) (hV : Verbs w) :
    Calls Tryz.prog 35 #[.agg #[.int .i64 k, .string s, .string y, .int .i64 vk, .int .i64 vn, .int .i64 ln]] w fun e w' => e = .returned (.tuple #[.string (evText k s y vk vn), .int .i64 (evErr k s y vk vn)]) ∧ Only [] w w' := by
  have HMY := Lib.hid (fun w' (hO : Only [] w w') => evmay_any k s y vk vn ln w' (by omega) (by omega) (hT.only hO) (hV.only hO))
  have HK := Lib.hid (fun w' (hO : Only [] w w') => ofKind_any k w' (hV.only hO))
  have HVP := Lib.hid (fun w' => vprint_any vk vn w' h1 h2)
  have HL := evWords_len k s y vk vn h1 h2 hs hy
  have HJ := Lib.hid (fun A c B xs w' (hxs : xs = evWords k s y vk vn) (hA : Row w' B A (strs xs)) (hc : xs.length ≤ c) (h4 : xs.length ≤ 4) => join_any A xs.length c B xs w' hA rfl hc (by rw [hxs]; omega) (by omega))
  unfold evText evErr
  obtain ⟨ok, hok⟩ : ∃ x, x = evOk k s y vk vn := ⟨_, rfl⟩
  obtain ⟨T, hTT⟩ : ∃ x, x = joinW (evWords k s y vk vn) := ⟨_, rfl⟩
  rw [← hok, ← hTT]
  rw [← hok] at HMY
  have HTX : Hid (∀ xs, xs = evWords k s y vk vn → joinW xs = T) := Lib.hid (fun xs h => by rw [h, hTT])
  unfold evWords at HJ HTX
  obtain ⟨kk, hkk⟩ : ∃ x, x = kN k := ⟨_, rfl⟩
  obtain ⟨kw, hkw⟩ : ∃ x, x = kW k := ⟨_, rfl⟩
  obtain ⟨ko, hko⟩ : ∃ x, x = kO k := ⟨_, rfl⟩
  obtain ⟨is, his⟩ : ∃ x, x = kOk k := ⟨_, rfl⟩
  rw [← hkk, ← hkw, ← hko, ← his] at HK
  rw [← hkw, ← hko] at HJ HTX
  generalize (⟨(vText vk vn).toArray⟩ : ByteArray) = vt at *
  generalize vErr vk vn = ve at *
  have HO := Lib.hid ((Only.refl [] w).alloc (.cells #[.int .i64 k, .string s, .string y, .int .i64 vk, .int .i64 vn, .int .i64 ln] 47))
  have HE := Lib.hid (Blk.made w 47 #[.int .i64 k, .string s, .string y, .int .i64 vk, .int .i64 vn, .int .i64 ln])
  clear hok hTT hkk hkw hko his hs hy h1 h2 hT hV HL
  go_enter Tryz.func35, Tryz.ntmps35
  go_wp2_with fail
  refine (HMY.out _ HO.out).mono ?_
  rintro e w1 ⟨rfl, O1⟩
  have HO1 := Lib.hid (HO.out.trans O1)
  have bE1 := O1.blk HE.out (by simp)
  have lE := bE1.lt
  have f0 := bE1.at_ 0
  simp at f0
  clear O1
  cases ok with
  | false =>
    go_wp2
    go_ret2
    exact ⟨rfl, HO1.out⟩
  | true =>
    go_wp2_with fail
    refine (HK.out _ HO1.out).mono ?_
    rintro e w2 ⟨rfl, O2⟩
    have HO2 := Lib.hid ((HO1.out.trans O2).alloc (.cells #[.int .i64 kk, .string kw, .bool ko] 103))
    have HE2 := Lib.hid ((O2.blk bE1 (by simp)).alloc (.cells #[.int .i64 kk, .string kw, .bool ko] 103))
    have HV2 := Lib.hid (Blk.made w2 103 #[.int .i64 kk, .string kw, .bool ko])
    have bE2 := O2.blk bE1 (by simp)
    clear lE f0 bE1 O2
    have lE := bE2.lt
    have f1 := bE2.at_ 1
    have f3 := bE2.at_ 3
    have f4 := bE2.at_ 4
    simp at f1 f3 f4
    cases ko with
    | false =>
      go_wp2_with fail
      have hr := row_lit (w2.alloc (.cells #[.int .i64 kk, .string kw, .bool false] 103)) 9 #[.string kw, .string s]
      simp only [World.size_alloc] at hr
      have hj := HJ.out _ 2 _ [kw, s] _ (by simp) hr (by simp) (by simp)
      rw [HTX.out [kw, s] (by simp)] at hj
      refine hj.mono ?_
      clear hr hj
      rintro e w3 ⟨rfl, O3⟩
      have HO3 := Lib.hid ((HO2.out.alloc (.cells #[.string kw, .string s] 9)).trans O3)
      clear O3
      go_wp2
      go_ret2
      exact ⟨rfl, HO3.out⟩
    | true =>
      go_wp2_with fail
      refine (HVP.out _).mono ?_
      rintro e w3 ⟨rfl, O3⟩
      have HO3 := Lib.hid (HO2.out.trans O3)
      have bE3 := O3.blk HE2.out (by simp)
      have bV3 := O3.blk HV2.out (by simp)
      clear lE f1 f3 f4 bE2 O3
      have lE := bE3.lt
      have lV := bV3.lt
      have f1 := bE3.at_ 1
      have f2 := bE3.at_ 2
      have v1 := bV3.at_ 1
      simp at f1 f2 v1
      go_wp2_with fail
      have hr := row_lit w3 9 #[.string kw, .string s, .string y, .string vt]
      have hj := HJ.out _ 4 _ [kw, s, y, vt] _ (by simp) hr (by simp) (by simp)
      rw [HTX.out [kw, s, y, vt] (by simp)] at hj
      refine hj.mono ?_
      clear hr hj
      rintro e w4 ⟨rfl, O4⟩
      have HO4 := Lib.hid ((HO3.out.alloc (.cells #[.string kw, .string s, .string y, .string vt] 9)).trans O4)
      clear O4
      go_wp2
      go_ret2
      exact ⟨rfl, HO4.out⟩

end Go.Proofs.YthaeomdpaadilaaGreatDoor

set_option linter.unusedVariables false
set_option linter.unusedSimpArgs false
namespace Go.Proofs.YthaeomdpaadilaaGreatDoor
open Go.RowKit
open Go.Lib hiding intOf

theorem valid_cons_small (b : UInt8) (t : List UInt8) (h : b.toNat < 128) : validD (b :: t) = validD t := by
  rcases rune_or_bad (b :: t) (by simp) with ⟨-, h2⟩ | ⟨m, rest, r, e, hm⟩
  · simp at h2
    omega
  · obtain ⟨b0, cs, rfl, -, -⟩ := hm.lead
    have hb : b0 = b := by simpa using (congrArg List.head? e).symm
    have hr : r < 128 := by
      rcases Nat.lt_or_ge r 128 with h1 | h1
      · exact h1
      · have := hm.big h1 b0 (by simp)
        rw [hb] at this
        omega
    obtain ⟨b1, e1, -⟩ := hm.small hr
    have hcs : cs = [] := by simpa using congrArg List.tail e1
    subst hcs
    rw [e, valid_rune hm]
    congr 1
    simpa using (congrArg List.tail e).symm
theorem valid_small : ∀ (l : List UInt8), (∀ b ∈ l, b.toNat < 128) → validD l = true
  | [], _ => rfl
  | b :: t, h => by
    rw [valid_cons_small b t (h b (by simp))]
    exact valid_small t fun c hc => h c (by simp [hc])
theorem good_small {l : List UInt8} (hne : l ≠ []) (h : ∀ b ∈ l, b.toNat < 128 ∧ b.toNat ≠ 9 ∧ b.toNat ≠ 13 ∧ b.toNat ≠ 32 ∧ b.toNat ≠ 35 ∧ b.toNat ≠ 10) : GoodW l where
  ne := hne
  nb := fun c hc => by
    cases hb : blankB c with
    | false => rfl
    | true =>
      have := (blankB_iff c).1 hb
      have := h c hc
      omega
  hash := fun hm => (h _ hm).2.2.2.2.1 rfl
  nl := fun hm => (h _ hm).2.2.2.2.2 rfl
  valid := valid_small l fun b hb => (h b hb).1
theorem name_bytes {l : List UInt8} (hv : validD l = true) : (runesL l).all mayR = true → ∀ b ∈ l, 128 ≤ b.toNat ∨ mayR b.toNat = true := by
  refine valid_ind (p := fun l => (runesL l).all mayR = true → ∀ b ∈ l, 128 ≤ b.toNat ∨ mayR b.toNat = true) (fun _ b hb => by cases hb) ?_ l.length l (Nat.le_refl _) hv
  intro m rest r hm _ ih hall b hb
  rw [runes_rune hm, List.all_cons, Bool.and_eq_true] at hall
  rcases List.mem_append.1 hb with h | h
  · by_cases hr : r < 128
    · obtain ⟨b0, rfl, h0⟩ := hm.small hr
      simp at h
      subst h
      right
      rw [h0]
      exact hall.1
    · exact .inl (hm.big (by omega) b h)
  · exact ih hall.2 b h
theorem name_good {s : ByteArray} (h : isName s = true) : GoodW (by_ s) := by
  unfold isName at h
  rw [Bool.and_eq_true, Bool.and_eq_true] at h
  obtain ⟨⟨hv, -⟩, hn⟩ := h
  unfold nameL at hn
  rw [Bool.and_eq_true, Bool.and_eq_true, Bool.and_eq_true] at hn
  obtain ⟨⟨⟨h0, -⟩, -⟩, hall⟩ := hn
  have hb := name_bytes hv hall
  have key : ∀ c ∈ by_ s, c.toNat ≠ 9 ∧ c.toNat ≠ 13 ∧ c.toNat ≠ 32 ∧ c.toNat ≠ 35 ∧ c.toNat ≠ 10 := by
    intro c hc
    rcases hb c hc with h | h
    · omega
    · unfold mayR digitR at h
      simp at h
      omega
  refine ⟨?_, fun c hc => ?_, fun hm => (key _ hm).2.2.2.1 rfl, fun hm => (key _ hm).2.2.2.2 rfl, hv⟩
  · intro e
    rw [e] at h0
    simp [runes_nil] at h0
  · cases hbl : blankB c with
    | false => rfl
    | true =>
      have := (blankB_iff c).1 hbl
      have := key c hc
      omega
theorem kW_good {k : Int} (h : kOk k = true) : GoodW (by_ (kW k)) ∧ wK (kW k) = k := by
  rcases kN_cases k with rfl | rfl | rfl | rfl | rfl | rfl | ⟨-, e, -⟩
  · exact ⟨good_small (by decide) (by decide), by decide⟩
  · exact ⟨good_small (by decide) (by decide), by decide⟩
  · exact ⟨good_small (by decide) (by decide), by decide⟩
  · exact ⟨good_small (by decide) (by decide), by decide⟩
  · exact ⟨good_small (by decide) (by decide), by decide⟩
  · exact ⟨good_small (by decide) (by decide), by decide⟩
  · rw [h] at e; cases e
theorem itoa_bytes (n : Int) : ∀ b ∈ Lib.itoa n, b = 45 ∨ isDig b = true := by
  intro b hb
  unfold Lib.itoa at hb
  have hd := fun u => List.all_eq_true.1 (all_dec u)
  split at hb
  · rcases List.mem_cons.1 hb with h | h
    · exact .inl h
    · exact .inr (hd _ b h)
  · exact .inr (hd _ b hb)
theorem vText_good {k n : Int} (h : mayB k n = true) : GoodW (vText k n) := by
  rcases mayB_cases k n with ⟨a, b, c⟩ | ⟨a, b, rfl, c⟩ | ⟨a, b, rfl, rfl, c⟩ | ⟨a, b, rfl, rfl, c⟩
  · rw [h] at a; cases a
  · rw [c]
    refine good_small ?_ fun b hb => ?_
    · intro e
      have := digB_itoa n
      rw [e] at this
      exact absurd this (by decide)
    · rcases itoa_bytes n b hb with rfl | h
      · decide
      · unfold isDig at h
        simp at h
        omega
  · rw [c]; exact good_small (by decide) (by decide)
  · rw [c]; exact good_small (by decide) (by decide)

theorem itoa_digits (n : Int) : Lib.itoa n ≠ [110, 105, 108] ∧ Lib.itoa n ≠ [63] := by
  have h := digB_itoa n
  constructor
  · intro e
    rw [e] at h
    exact absurd h (by decide)
  · intro e
    rw [e] at h
    exact absurd h (by decide)
theorem value_back {k n : Int} (h : mayB k n = true) (h1 : -9223372036854775808 ≤ n) (h2 : n ≤ 9223372036854775807) :
    pvK (vText k n) = k ∧ pvN (vText k n) = n ∧ pvE (vText k n) = 0 := by
  rcases mayB_cases k n with ⟨a, b, c⟩ | ⟨a, b, rfl, c⟩ | ⟨a, b, rfl, rfl, c⟩ | ⟨a, b, rfl, rfl, c⟩
  · rw [h] at a; cases a
  · rw [c]
    obtain ⟨d1, d2⟩ := itoa_digits n
    unfold pvK pvN pvE
    rw [if_neg d1, if_neg d2, if_neg d1, if_neg d2, if_neg d1, if_neg d2, if_pos (prE_itoa n h1 h2), if_pos (prE_itoa n h1 h2), prN_itoa n h1 h2]
    exact ⟨rfl, rfl, prE_itoa n h1 h2⟩
  · rw [c]; exact ⟨by decide, by decide, by decide⟩
  · rw [c]; exact ⟨by decide, by decide, by decide⟩
theorem pv_may {l : List UInt8} (h : pvE l = 0) : mayB (pvK l) (pvN l) = true ∧ (pvK l = 0 ∨ pvK l = 1 ∨ pvK l = 2) := by
  unfold pvE at h
  unfold pvK pvN
  by_cases h1 : l = [110, 105, 108]
  · rw [if_pos h1, if_pos h1]; exact ⟨by decide, by decide⟩
  · rw [if_neg h1, if_neg h1]
    rw [if_neg h1] at h
    by_cases h2 : l = [63]
    · rw [if_pos h2, if_pos h2]; exact ⟨by decide, by decide⟩
    · rw [if_neg h2, if_neg h2]
      rw [if_neg h2] at h
      rw [if_pos h, if_pos h]
      exact ⟨by simp [mayB], by simp⟩

/-- The words of a text that was joined out of good ones. -/
theorem texts_of_join {ws : List ByteArray} (h : ∀ x ∈ ws, GoodW (by_ x)) {T : ByteArray} (hT : by_ T = joinW ws) : badL (by_ T) = false ∧ textsOf T = ws := by
  have h2 := words_join (ws.map by_) (fun w hw => by obtain ⟨x, hx, rfl⟩ := List.mem_map.1 hw; exact h x hx)
  rw [show Lib.join (ws.map by_) [32] = by_ T from hT.symm] at h2
  refine ⟨h2.1, ?_⟩
  have h3 := texts_by T
  rw [h2.2.1] at h3
  exact texts_inj h3

/-- What is printed is read back. -/
theorem ev_back {k : Int} {s y : ByteArray} {vk vn : Int} (h : evOk k s y vk vn = true) (h1 : -9223372036854775808 ≤ vn) (h2 : vn ≤ 9223372036854775807) :
    evParse (evText k s y vk vn) = ⟨k, s, y, vk, vn, true, 0⟩ := by
  have hT : evText k s y vk vn = ⟨(joinW (evWords k s y vk vn)).toArray⟩ := if_pos h
  have hb : by_ (evText k s y vk vn) = joinW (evWords k s y vk vn) := by rw [hT]; rfl
  unfold evOk at h
  rw [Bool.and_eq_true, Bool.and_eq_true] at h
  obtain ⟨⟨hk, hs⟩, hr⟩ := h
  obtain ⟨gk, wk⟩ := kW_good hk
  have gs := name_good hs
  cases hko : kO k with
  | false =>
    rw [hko] at hr
    simp at hr
    obtain ⟨rfl, rfl, rfl⟩ := hr
    have hw : evWords k s ⟨#[]⟩ 0 0 = [kW k, s] := by unfold evWords; rw [hko]; rfl
    rw [hw] at hb
    obtain ⟨b1, b2⟩ := texts_of_join (ws := [kW k, s]) (fun x hx => by simp at hx; rcases hx with rfl | rfl; exact gk; exact gs) hb
    unfold evParse
    rw [b1, b2]
    simp [evOf, wk, hk, hko, hs]
  | true =>
    rw [hko] at hr
    simp at hr
    obtain ⟨h3, hy, hm⟩ := hr
    have gy := name_good hy
    have gv := vText_good hm
    obtain ⟨p1, p2, p3⟩ := value_back hm h1 h2
    have hvt : by_ (ByteArray.mk (vText vk vn).toArray) = vText vk vn := rfl
    have hoE : opE k ⟨(vText vk vn).toArray⟩ = 0 := by
      unfold opE
      rw [hvt, p3, p1]
      by_cases hk3 : k = 3
      · have := h3.resolve_left (fun n => n hk3)
        simp [this]
      · simp [hk3]
    have hoK : opK k ⟨(vText vk vn).toArray⟩ = vk := by unfold opK; rw [hoE, hvt, p1]; rfl
    have hoN : opN k ⟨(vText vk vn).toArray⟩ = vn := by unfold opN; rw [hoE, hvt, p2]; rfl
    have hw : evWords k s y vk vn = [kW k, s, y, ⟨(vText vk vn).toArray⟩] := by unfold evWords; rw [hko]; rfl
    rw [hw] at hb
    obtain ⟨b1, b2⟩ := texts_of_join (ws := [kW k, s, y, ⟨(vText vk vn).toArray⟩]) (fun x hx => by
      simp at hx
      rcases hx with rfl | rfl | rfl | rfl
      · exact gk
      · exact gs
      · exact gy
      · exact gv) hb
    unfold evParse
    rw [b1, b2]
    simp [evOf, wk, hk, hko, hs, hy, hoE, hoK, hoN]

/-- What is read may be. -/
theorem ev_may (s : ByteArray) (h : (evParse s).is = true) : (evParse s).e = 0 ∧ evOk (evParse s).k (evParse s).s (evParse s).y (evParse s).vk (evParse s).vn = true := by
  have key : ∀ r : EvR, r = evParse s → r.is = true → r.e = 0 ∧ evOk r.k r.s r.y r.vk r.vn = true := by
    intro r hr his
    unfold evParse at hr
    by_cases hb : badL (by_ s) = true
    · rw [if_pos hb] at hr
      exact absurd his (by rw [hr]; simp [evNo])
    rw [if_neg hb] at hr
    cases hws : textsOf s with
    | nil =>
      rw [hws] at hr
      exact absurd his (by rw [hr]; simp [evOf, evNo])
    | cons w0 rest =>
      rw [hws] at hr
      unfold evOf at hr
      dsimp only at hr
      by_cases hc : kOk (wK w0) = true ∧ ((w0 :: rest).length : Int) = (if kO (wK w0) = true then 4 else 2) ∧ isName ((w0 :: rest).getD 1 ⟨#[]⟩) = true
      · rw [if_pos hc] at hr
        obtain ⟨c1, c2, c3⟩ := hc
        by_cases c4 : kO (wK w0) = true
        · rw [if_pos c4] at hr
          by_cases c5 : isName ((w0 :: rest).getD 2 ⟨#[]⟩) = true
          · rw [if_pos c5] at hr
            by_cases c6 : opE (wK w0) ((w0 :: rest).getD 3 ⟨#[]⟩) = 0
            · rw [if_pos c6] at hr
              subst hr
              refine ⟨rfl, ?_⟩
              dsimp only
              have c7 : pvE (by_ ((w0 :: rest).getD 3 ⟨#[]⟩)) = 0 := by
                unfold opE at c6
                by_cases hz : pvE (by_ ((w0 :: rest).getD 3 ⟨#[]⟩)) = 0
                · exact hz
                · rw [if_pos hz] at c6; exact absurd c6 hz
              obtain ⟨m1, m2⟩ := pv_may c7
              have hoK : opK (wK w0) ((w0 :: rest).getD 3 ⟨#[]⟩) = pvK (by_ ((w0 :: rest).getD 3 ⟨#[]⟩)) := by unfold opK; rw [c6]; rfl
              have hoN : opN (wK w0) ((w0 :: rest).getD 3 ⟨#[]⟩) = pvN (by_ ((w0 :: rest).getD 3 ⟨#[]⟩)) := by unfold opN; rw [c6]; rfl
              rw [hoK, hoN]
              unfold opE at c6
              rw [if_neg (by rw [c7]; simp)] at c6
              unfold evOk
              rw [c1, c3, c4, c5, m1]
              by_cases h3 : wK w0 = 3
              · have : pvK (by_ ((w0 :: rest).getD 3 ⟨#[]⟩)) = 1 := by
                  rcases m2 with e | e | e
                  · rw [if_neg (by rw [e]; omega), if_pos ⟨h3, e⟩] at c6; exact absurd c6 (by decide)
                  · exact e
                  · rw [if_pos ⟨h3, e⟩] at c6; exact absurd c6 (by decide)
                rw [this]
                simp
              · simp [h3]
            · rw [if_neg c6] at hr
              exact absurd his (by rw [hr]; simp [evNo])
          · rw [if_neg c5] at hr
            exact absurd his (by rw [hr]; simp [evNo])
        · rw [if_neg c4] at hr
          subst hr
          refine ⟨rfl, ?_⟩
          dsimp only
          have c5 : kO (wK w0) = false := by simpa using c4
          unfold evOk
          rw [c1, c3, c5]
          rfl
      · rw [if_neg hc] at hr
        exact absurd his (by rw [hr]; simp [evNo])
  exact key _ rfl h

theorem getD_size (s : ByteArray) (i : Nat) : ((textsOf s).getD i ⟨#[]⟩).size ≤ s.size := by
  rw [List.getD_eq_getElem?_getD]
  cases h : (textsOf s)[i]? with
  | none => exact Nat.zero_le _
  | some x => exact texts_size s x (List.mem_of_getElem? h)
theorem ev_sizes (s : ByteArray) (hs : s.size ≤ 9223372036854775807) : (evParse s).s.size ≤ 9223372036854775807 ∧ (evParse s).y.size ≤ 9223372036854775807 := by
  have a := getD_size s 1
  have b := getD_size s 2
  have z : (ByteArray.mk #[]).size ≤ 9223372036854775807 := by decide
  unfold evParse
  split
  · exact ⟨z, z⟩
  · generalize textsOf s = ws at *
    cases ws with
    | nil => exact ⟨z, z⟩
    | cons w0 rest =>
      unfold evOf
      dsimp only
      repeat' split
      all_goals first
        | exact ⟨z, z⟩
        | exact ⟨by dsimp only; omega, by dsimp only; omega⟩
        | exact ⟨by dsimp only; omega, z⟩
        | exact ⟨by omega, by omega⟩
        | exact ⟨by omega, z⟩

end Go.Proofs.YthaeomdpaadilaaGreatDoor
