/- Contracts of the package event: Print. -/
import Derived.Test.YtbenjknaklafmaaDoorLogParsesCardK19
import Derived.Test.YtbenjknaklafmaaDoorLogParsesCardK25
import Derived.Lib.ItoaLen
set_option linter.unusedVariables false
set_option linter.unusedSimpArgs false
namespace Go.Proofs.YtbenjknaklafmaaDoor
open Go.RowKit
open Go.Lib hiding intOf
attribute [local go_sem ↓] Go.wp_at_zero Go.wp_at_succ

/-- An event's line. -/
def evWords (k : Int) (s y : ByteArray) (vk vn : Int) : List ByteArray := if kO k = true then [kW k, s, y, ⟨(vText vk vn).toArray⟩] else [kW k, s]
def evText (k : Int) (s y : ByteArray) (vk vn : Int) : ByteArray := if evOk k s y vk vn = true then ⟨(joinW (evWords k s y vk vn)).toArray⟩ else ⟨#[]⟩
def evErr (k : Int) (s y : ByteArray) (vk vn : Int) : Int := if evOk k s y vk vn = true then 0 else 4

theorem kW_size (k : Int) : (kW k).size ≤ 5 := by
  unfold kW
  repeat' split
  all_goals decide
theorem vText_len (k n : Int) (h1 : -9223372036854775808 ≤ n) (h2 : n ≤ 9223372036854775807) : (vText k n).length ≤ 21 := by
  have := Lib.itoa_length_le n h1 h2
  unfold vText
  repeat' split
  all_goals first | omega | simp
theorem evWords_len (k : Int) (s y : ByteArray) (vk vn : Int) (h1 : -9223372036854775808 ≤ vn) (h2 : vn ≤ 9223372036854775807) (hs : s.size ≤ 2000) (hy : y.size ≤ 2000) : (joinW (evWords k s y vk vn)).length ≤ 5000 := by
  refine Nat.le_trans (joinW_sum _) ?_
  have a := kW_size k
  have b := vText_len vk vn h1 h2
  have c : (ByteArray.mk (vText vk vn).toArray).size = (vText vk vn).length := by simp [ByteArray.size]
  unfold evWords
  split
  · simp only [List.map_cons, List.map_nil, List.sum_cons, List.sum_nil, c]; omega
  · simp only [List.map_cons, List.map_nil, List.sum_cons, List.sum_nil]; omega

set_option maxRecDepth 10000 in
set_option maxHeartbeats 4000000 in
theorem evprint_any (k : Int) (s y : ByteArray) (vk vn ln : Int) (w : World) (hs : s.size ≤ 2000) (hy : y.size ≤ 2000) (h1 : -9223372036854775808 ≤ vn) (h2 : vn ≤ 9223372036854775807) (hT : UTabs w) (hV : Verbs w) :
    Calls Tryd.prog 22 #[.agg #[.int .i64 k, .string s, .string y, .int .i64 vk, .int .i64 vn, .int .i64 ln]] w fun e w' => e = .returned (.tuple #[.string (evText k s y vk vn), .int .i64 (evErr k s y vk vn)]) ∧ Only [] w w' := by
  have HMY := Lib.hid (fun w' (hO : Only [] w w') => evmay_any k s y vk vn ln w' (by omega) (by omega) (hT.only hO) (hV.only hO))
  have HK := Lib.hid (fun w' (hO : Only [] w w') => ofKind_any k w' (hV.only hO))
  have HVP := Lib.hid (fun w' => vprint_any vk vn w' h1 h2)
  have HL := evWords_len k s y vk vn h1 h2 hs hy
  have HJ := Lib.hid (fun A c B xs w' (hxs : xs = evWords k s y vk vn) (hA : Row w' B A (strs xs)) (hc : xs.length ≤ c) (h4 : xs.length ≤ 4) => join_any A xs.length c B xs w' hA rfl hc (by rw [hxs]; omega) (by omega))
  unfold evText evErr
  obtain ⟨ok, hok⟩ : ∃ x, x = evOk k s y vk vn := ⟨_, rfl⟩
  obtain ⟨T, hTT⟩ : ∃ x, x = joinW (evWords k s y vk vn) := ⟨_, rfl⟩
  rw [← hok, ← hTT]
  rw [← hok] at HMY
  have HTX : Hid (∀ xs, xs = evWords k s y vk vn → joinW xs = T) := Lib.hid (fun xs h => by rw [h, hTT])
  unfold evWords at HJ HTX
  obtain ⟨kk, hkk⟩ : ∃ x, x = kN k := ⟨_, rfl⟩
  obtain ⟨kw, hkw⟩ : ∃ x, x = kW k := ⟨_, rfl⟩
  obtain ⟨ko, hko⟩ : ∃ x, x = kO k := ⟨_, rfl⟩
  obtain ⟨is, his⟩ : ∃ x, x = kOk k := ⟨_, rfl⟩
  rw [← hkk, ← hkw, ← hko, ← his] at HK
  rw [← hkw, ← hko] at HJ HTX
  generalize (⟨(vText vk vn).toArray⟩ : ByteArray) = vt at *
  generalize vErr vk vn = ve at *
  have HO := Lib.hid ((Only.refl [] w).alloc (.cells #[.int .i64 k, .string s, .string y, .int .i64 vk, .int .i64 vn, .int .i64 ln] 38))
  have HE := Lib.hid (Blk.made w 38 #[.int .i64 k, .string s, .string y, .int .i64 vk, .int .i64 vn, .int .i64 ln])
  clear hok hTT hkk hkw hko his hs hy h1 h2 hT hV HL
  go_enter Tryd.func22, Tryd.ntmps22
  go_wp2_with fail
  refine (HMY.out _ HO.out).mono ?_
  rintro e w1 ⟨rfl, O1⟩
  have HO1 := Lib.hid (HO.out.trans O1)
  have bE1 := O1.blk HE.out (by simp)
  have lE := bE1.lt
  have f0 := bE1.at_ 0
  simp at f0
  clear O1
  cases ok with
  | false =>
    go_wp2
    go_ret2
    exact ⟨rfl, HO1.out⟩
  | true =>
    go_wp2_with fail
    refine (HK.out _ HO1.out).mono ?_
    rintro e w2 ⟨rfl, O2⟩
    have HO2 := Lib.hid ((HO1.out.trans O2).alloc (.cells #[.int .i64 kk, .string kw, .bool ko] 64))
    have HE2 := Lib.hid ((O2.blk bE1 (by simp)).alloc (.cells #[.int .i64 kk, .string kw, .bool ko] 64))
    have HV2 := Lib.hid (Blk.made w2 64 #[.int .i64 kk, .string kw, .bool ko])
    have bE2 := O2.blk bE1 (by simp)
    clear lE f0 bE1 O2
    have lE := bE2.lt
    have f1 := bE2.at_ 1
    have f3 := bE2.at_ 3
    have f4 := bE2.at_ 4
    simp at f1 f3 f4
    cases ko with
    | false =>
      go_wp2_with fail
      have hr := row_lit (w2.alloc (.cells #[.int .i64 kk, .string kw, .bool false] 64)) 9 #[.string kw, .string s]
      simp only [World.size_alloc] at hr
      have hj := HJ.out _ 2 _ [kw, s] _ (by simp) hr (by simp) (by simp)
      rw [HTX.out [kw, s] (by simp)] at hj
      refine hj.mono ?_
      clear hr hj
      rintro e w3 ⟨rfl, O3⟩
      have HO3 := Lib.hid ((HO2.out.alloc (.cells #[.string kw, .string s] 9)).trans O3)
      clear O3
      go_wp2
      go_ret2
      exact ⟨rfl, HO3.out⟩
    | true =>
      go_wp2_with fail
      refine (HVP.out _).mono ?_
      rintro e w3 ⟨rfl, O3⟩
      have HO3 := Lib.hid (HO2.out.trans O3)
      have bE3 := O3.blk HE2.out (by simp)
      have bV3 := O3.blk HV2.out (by simp)
      clear lE f1 f3 f4 bE2 O3
      have lE := bE3.lt
      have lV := bV3.lt
      have f1 := bE3.at_ 1
      have f2 := bE3.at_ 2
      have v1 := bV3.at_ 1
      simp at f1 f2 v1
      go_wp2_with fail
      have hr := row_lit w3 9 #[.string kw, .string s, .string y, .string vt]
      have hj := HJ.out _ 4 _ [kw, s, y, vt] _ (by simp) hr (by simp) (by simp)
      rw [HTX.out [kw, s, y, vt] (by simp)] at hj
      refine hj.mono ?_
      clear hr hj
      rintro e w4 ⟨rfl, O4⟩
      have HO4 := Lib.hid ((HO3.out.alloc (.cells #[.string kw, .string s, .string y, .string vt] 9)).trans O4)
      clear O4
      go_wp2
      go_ret2
      exact ⟨rfl, HO4.out⟩

end Go.Proofs.YtbenjknaklafmaaDoor
