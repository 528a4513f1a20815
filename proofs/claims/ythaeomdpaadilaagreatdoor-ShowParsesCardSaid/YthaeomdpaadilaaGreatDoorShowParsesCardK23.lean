/- A contract of the library at this program: what it asks of the program, field by field. Contracts of the package split: Join. Words joined and parted again: the mathematics. Contracts of the package event: Print. -/
import Derived.Test.YthaeomdpaadilaaGreatDoorProg
import Derived.Ground.NamesProg
import Derived.Shelf.Strings.OnBuilder
import Derived.Test.YthaeomdpaadilaaGreatDoorShowParsesCardK22
import Derived.Test.YthaeomdpaadilaaGreatDoorShowParsesCardK6
import Derived.Test.YthaeomdpaadilaaGreatDoorShowParsesCardK21
import Derived.Lib.ItoaLen
namespace Go.Proofs
open Go.Shelf
def Tryz.laysJoin_ren : Go.Shelf.Ren := ⟨fun | 156 => 88 | 165 => 109 | 166 => 37 | 169 => 39 | 240 => 64 | 241 => 117 | 276 => 90 | 277 => 122 | n => n, fun | 31 => 22 | 9 => 9 | 3 => 3 | 4 => 4 | 0 => 0 | 20 => 20 | 72 => 67 | 76 => 72 | 70 => 64 | 37 => 65 | 75 => 71 | 127 => 108 | 164 => 138 | 5 => 5 | 80 => 75 | n => n, fun | n => n⟩
theorem Tryz.laysJoin : Go.Proofs.Lays.n156 Tryz.prog Tryz.laysJoin_ren := {
 mixed := by kernel_rfl
 f156 := Tryz.func88.trans (congrArg some (by kernel_rfl))
 f165 := Tryz.func109.trans (congrArg some (by kernel_rfl))
 f166 := Tryz.func37.trans (congrArg some (by kernel_rfl))
 f169 := Tryz.func39.trans (congrArg some (by kernel_rfl))
 f240 := Tryz.func64.trans (congrArg some (by kernel_rfl))
 f241 := Tryz.func117.trans (congrArg some (by kernel_rfl))
 f276 := Tryz.func90.trans (congrArg some (by kernel_rfl))
 f277 := Tryz.func122.trans (congrArg some (by kernel_rfl))
 t0 := Tryz.underlying0
 a0 := Tryz.isAgg0
 z0 := Tryz.sizeOf0
 v0 := Tryz.zeroValue0
 t3 := Tryz.underlying3
 a3 := Tryz.isAgg3
 z3 := Tryz.sizeOf3
 v3 := Tryz.zeroValue3
 t4 := Tryz.underlying4
 a4 := Tryz.isAgg4
 z4 := Tryz.sizeOf4
 v4 := Tryz.zeroValue4
 t9 := Tryz.underlying9
 a9 := Tryz.isAgg9
 z9 := Tryz.sizeOf9
 v9 := Tryz.zeroValue9
 t20 := Tryz.underlying20
 a20 := Tryz.isAgg20
 z20 := Tryz.sizeOf20
 v20 := Tryz.zeroValue20
 t31 := Tryz.underlying22
 a31 := Tryz.isAgg22
 z31 := Tryz.sizeOf22
 v31 := Tryz.zeroValue22
 t37 := Tryz.underlying65
 a37 := Tryz.isAgg65
 z37 := Tryz.sizeOf65
 v37 := Tryz.zeroValue65
 t70 := Tryz.underlying64
 a70 := Tryz.isAgg64
 z70 := Tryz.sizeOf64
 v70 := Tryz.zeroValue64
 t72 := Tryz.underlying67
 a72 := Tryz.isAgg67
 z72 := Tryz.sizeOf67
 v72 := Tryz.zeroValue67
 t75 := Tryz.underlying71
 a75 := Tryz.isAgg71
 z75 := Tryz.sizeOf71
 v75 := Tryz.zeroValue71
 t76 := Tryz.underlying72
 a76 := Tryz.isAgg72
 z76 := Tryz.sizeOf72
 v76 := Tryz.zeroValue72
 t127 := Tryz.underlying108
 a127 := Tryz.isAgg108
 z127 := Tryz.sizeOf108
 v127 := Tryz.zeroValue108
 t164 := Tryz.underlying138
 a164 := Tryz.isAgg138
 z164 := Tryz.sizeOf138
 v164 := Tryz.zeroValue138 }
end Go.Proofs

set_option linter.unusedVariables false
set_option linter.unusedSimpArgs false
namespace Go.Proofs.YthaeomdpaadilaaGreatDoor
open Go.RowKit
open Go.Lib hiding intOf
attribute [local go_sem ↓] Go.wp_at_zero Go.wp_at_succ
theorem extraJ : Builder.Extra Tryz.prog Tryz.laysJoin_ren where
 sizeBuilder := by kernel_rfl
 liesBuilder := by kernel_rfl
 t5 := Tryz.underlying5
 a5 := Tryz.isAgg5
 z5 := Tryz.sizeOf5
 v5 := Tryz.zeroValue5
 infoByte := by kernel_rfl
 cellsByte := by kernel_rfl
 sizeByte := by kernel_rfl
 neB5 := by decide
def joinW (xs : List ByteArray) : List UInt8 := Lib.join (xs.map by_) [32]
theorem sjoin_any (A : Option Addr) (n c B : Nat) (xs : List ByteArray) (w : World) (hA : Row w B A (strs xs)) (hn : xs.length = n) (hc : n ≤ c) (hl : (joinW xs).length ≤ 140737488355328) (hN : n ≤ 140737488355328) :
  Calls Tryz.prog 88 #[.slice A n c, .string ⟨#[32]⟩] w fun e w' => e = .returned (.string ⟨(joinW xs).toArray⟩) ∧ Only [] w w' := by
 subst hn
 rcases hA with h | ⟨b, off, rfl, hb, hw, hcell⟩
 ·have : xs = [] := by simpa [strs] using h
  subst this
  have h : Calls Tryz.prog 88 #[.slice A 0 c, .string ⟨#[32]⟩] w _ := Any.strings_Join_none Tryz.laysJoin extraJ A c ⟨#[32]⟩ w
  exact h.mono fun e w' ⟨h1, h2⟩ => ⟨h1, h2 ▸ Only.refl _ _⟩
 ·have h : Calls Tryz.prog 88 #[.slice (some ⟨b, off, none⟩) xs.length c, .string ⟨#[32]⟩] w _ := Any.strings_Join Tryz.laysJoin extraJ b off c xs ⟨#[32]⟩ w (fun j x hx => hcell j _ (by rw [strs, List.getElem?_map, hx]; rfl)) (by omega) hN hc hl
  exact h.mono fun e w' ⟨h1, h2⟩ => ⟨h1, Only.of_below h2 []⟩
theorem join_any (A : Option Addr) (n c B : Nat) (xs : List ByteArray) (w : World) (hA : Row w B A (strs xs)) (hn : xs.length = n) (hc : n ≤ c) (hl : (joinW xs).length ≤ 140737488355328) (hN : n ≤ 140737488355328) :
  Calls Tryz.prog 62 #[.slice A n c] w fun e w' => e = .returned (.string ⟨(joinW xs).toArray⟩) ∧ Only [] w w' := by
 have HJ := Lib.hid (sjoin_any A n c B xs w hA hn hc hl hN)
 generalize (⟨(joinW xs).toArray⟩ : ByteArray) = r at *
 clear hA hn hc hl hN
 go_enter Tryz.func62, Tryz.ntmps62
 go_wp2_with fail
 refine (HJ.out).mono ?_
 rintro e w1 ⟨rfl, hO⟩
 have HO := Lib.hid hO
 clear hO
 go_wp2
 go_ret
 exact ⟨rfl, HO.out⟩
end Go.Proofs.YthaeomdpaadilaaGreatDoor

set_option linter.unusedVariables false
set_option linter.unusedSimpArgs false
namespace Go.Proofs.YthaeomdpaadilaaGreatDoor
open Go.Lib hiding intOf
/-- What words joined are read from. -/
def flatW (ws : List (List UInt8)) : List UInt8 := (ws.map (· ++ [32])).flatten
theorem flat_cons (w : List UInt8) (ws : List (List UInt8)) : flatW (w :: ws) = w ++ 32 :: flatW ws := by simp [flatW]
theorem join_flat : ∀ (ws : List (List UInt8)), ws ≠ [] → Lib.join ws [32] ++ [32] = flatW ws
 | [w], _ => by
  rw [Lib.join_one, flat_cons]
  rfl
 | w :: v :: ws, _ => by
  have ih := join_flat (v :: ws) (by simp)
  rw [flat_cons, ← ih, join_cons]
  have h2 := join_cons v ws [32]
  rw [h2]
  simp [joinTail, List.append_assoc]
/-- The words' texts. -/
def textsOf (s : ByteArray) : List ByteArray := (wordsOf (by_ s)).map fun p => s.extract p.1 p.2
theorem joinW_sum : ∀ (ws : List ByteArray), (joinW ws).length ≤ (ws.map fun w => w.size + 1).sum
 | [] => Nat.zero_le _
 | w :: ws => by
  have h := join_flat ((w :: ws).map by_) (by simp)
  have h2 := congrArg List.length h
  rw [List.length_append] at h2
  have h3 : ∀ l : List ByteArray, (flatW (l.map by_)).length = (l.map fun w => w.size + 1).sum := by
   intro l
   induction l with
   | nil => rfl
   | cons y l ih =>
    rw [List.map_cons, flat_cons, List.length_append, List.length_cons, ih, List.map_cons, List.sum_cons, by_length]
    omega
  rw [h3] at h2
  unfold joinW
  simp only [List.length_singleton] at h2
  omega
end Go.Proofs.YthaeomdpaadilaaGreatDoor

set_option linter.unusedVariables false
set_option linter.unusedSimpArgs false
namespace Go.Proofs.YthaeomdpaadilaaGreatDoor
open Go.RowKit
open Go.Lib hiding intOf
attribute [local go_sem ↓] Go.wp_at_zero Go.wp_at_succ
/-- An event's line. -/
def evWords (k : Int) (s y : ByteArray) (vk vn : Int) : List ByteArray := if kO k = true then [kW k, s, y, ⟨(vText vk vn).toArray⟩] else [kW k, s]
def evText (k : Int) (s y : ByteArray) (vk vn : Int) : ByteArray := if evOk k s y vk vn = true then ⟨(joinW (evWords k s y vk vn)).toArray⟩ else ⟨#[]⟩
def evErr (k : Int) (s y : ByteArray) (vk vn : Int) : Int := if evOk k s y vk vn = true then 0 else 4
theorem kW_size (k : Int) : (kW k).size ≤ 5 := by
 unfold kW
 repeat' split
 all_goals decide
theorem vText_len (k n : Int) (h1 : -9223372036854775808 ≤ n) (h2 : n ≤ 9223372036854775807) : (vText k n).length ≤ 21 := by
 have := Lib.itoa_length_le n h1 h2
 unfold vText
 repeat' split
 all_goals first | omega | simp
theorem evWords_len (k : Int) (s y : ByteArray) (vk vn : Int) (h1 : -9223372036854775808 ≤ vn) (h2 : vn ≤ 9223372036854775807) (hs : s.size ≤ 2000) (hy : y.size ≤ 2000) : (joinW (evWords k s y vk vn)).length ≤ 5000 := by
 refine Nat.le_trans (joinW_sum _) ?_
 have a := kW_size k
 have b := vText_len vk vn h1 h2
 have c : (ByteArray.mk (vText vk vn).toArray).size = (vText vk vn).length := by simp [ByteArray.size]
 unfold evWords
 split
 ·simp only [List.map_cons, List.map_nil, List.sum_cons, List.sum_nil, c]; omega
 ·simp only [List.map_cons, List.map_nil, List.sum_cons, List.sum_nil]; omega
set_option maxRecDepth 10000 in
set_option maxHeartbeats 4000000 in
theorem evprint_any (k : Int) (s y : ByteArray) (vk vn ln : Int) (w : World) (hs : s.size ≤ 2000) (hy : y.size ≤ 2000) (h1 : -9223372036854775808 ≤ vn) (h2 : vn ≤ 9223372036854775807) (hT : UTabs w) (hV : Verbs w) :
  Calls Tryz.prog 35 #[.agg #[.int .i64 k, .string s, .string y, .int .i64 vk, .int .i64 vn, .int .i64 ln]] w fun e w' => e = .returned (.tuple #[.string (evText k s y vk vn), .int .i64 (evErr k s y vk vn)]) ∧ Only [] w w' := by
 have HMY := Lib.hid (fun w' (hO : Only [] w w') => evmay_any k s y vk vn ln w' (by omega) (by omega) (hT.only hO) (hV.only hO))
 have HK := Lib.hid (fun w' (hO : Only [] w w') => ofKind_any k w' (hV.only hO))
 have HVP := Lib.hid (fun w' => vprint_any vk vn w' h1 h2)
 have HL := evWords_len k s y vk vn h1 h2 hs hy
 have HJ := Lib.hid (fun A c B xs w' (hxs : xs = evWords k s y vk vn) (hA : Row w' B A (strs xs)) (hc : xs.length ≤ c) (h4 : xs.length ≤ 4) => join_any A xs.length c B xs w' hA rfl hc (by rw [hxs]; omega) (by omega))
 unfold evText evErr
 obtain ⟨ok, hok⟩ : ∃ x, x = evOk k s y vk vn := ⟨_, rfl⟩
 obtain ⟨T, hTT⟩ : ∃ x, x = joinW (evWords k s y vk vn) := ⟨_, rfl⟩
 rw [← hok, ← hTT]
 rw [← hok] at HMY
 have HTX : Hid (∀ xs, xs = evWords k s y vk vn → joinW xs = T) := Lib.hid (fun xs h => by rw [h, hTT])
 unfold evWords at HJ HTX
 obtain ⟨kk, hkk⟩ : ∃ x, x = kN k := ⟨_, rfl⟩
 obtain ⟨kw, hkw⟩ : ∃ x, x = kW k := ⟨_, rfl⟩
 obtain ⟨ko, hko⟩ : ∃ x, x = kO k := ⟨_, rfl⟩
 obtain ⟨is, his⟩ : ∃ x, x = kOk k := ⟨_, rfl⟩
 rw [← hkk, ← hkw, ← hko, ← his] at HK
 rw [← hkw, ← hko] at HJ HTX
 generalize (⟨(vText vk vn).toArray⟩ : ByteArray) = vt at *
 generalize vErr vk vn = ve at *
 have HO := Lib.hid ((Only.refl [] w).alloc (.cells #[.int .i64 k, .string s, .string y, .int .i64 vk, .int .i64 vn, .int .i64 ln] 47))
 have HE := Lib.hid (Blk.made w 47 #[.int .i64 k, .string s, .string y, .int .i64 vk, .int .i64 vn, .int .i64 ln])
 clear hok hTT hkk hkw hko his hs hy h1 h2 hT hV HL
 go_enter Tryz.func35, Tryz.ntmps35
 go_wp2_with fail
 refine (HMY.out _ HO.out).mono ?_
 rintro e w1 ⟨rfl, O1⟩
 have HO1 := Lib.hid (HO.out.trans O1)
 have bE1 := O1.blk HE.out (by simp)
 have lE := bE1.lt
 have f0 := bE1.at_ 0
 simp at f0
 clear O1
 cases ok with
 | false =>
  go_wp2
  go_ret2
  exact ⟨rfl, HO1.out⟩
 | true =>
  go_wp2_with fail
  refine (HK.out _ HO1.out).mono ?_
  rintro e w2 ⟨rfl, O2⟩
  have HO2 := Lib.hid ((HO1.out.trans O2).alloc (.cells #[.int .i64 kk, .string kw, .bool ko] 103))
  have HE2 := Lib.hid ((O2.blk bE1 (by simp)).alloc (.cells #[.int .i64 kk, .string kw, .bool ko] 103))
  have HV2 := Lib.hid (Blk.made w2 103 #[.int .i64 kk, .string kw, .bool ko])
  have bE2 := O2.blk bE1 (by simp)
  clear lE f0 bE1 O2
  have lE := bE2.lt
  have f1 := bE2.at_ 1
  have f3 := bE2.at_ 3
  have f4 := bE2.at_ 4
  simp at f1 f3 f4
  cases ko with
  | false =>
   go_wp2_with fail
   have hr := row_lit (w2.alloc (.cells #[.int .i64 kk, .string kw, .bool false] 103)) 9 #[.string kw, .string s]
   simp only [World.size_alloc] at hr
   have hj := HJ.out _ 2 _ [kw, s] _ (by simp) hr (by simp) (by simp)
   rw [HTX.out [kw, s] (by simp)] at hj
   refine hj.mono ?_
   clear hr hj
   rintro e w3 ⟨rfl, O3⟩
   have HO3 := Lib.hid ((HO2.out.alloc (.cells #[.string kw, .string s] 9)).trans O3)
   clear O3
   go_wp2
   go_ret2
   exact ⟨rfl, HO3.out⟩
  | true =>
   go_wp2_with fail
   refine (HVP.out _).mono ?_
   rintro e w3 ⟨rfl, O3⟩
   have HO3 := Lib.hid (HO2.out.trans O3)
   have bE3 := O3.blk HE2.out (by simp)
   have bV3 := O3.blk HV2.out (by simp)
   clear lE f1 f3 f4 bE2 O3
   have lE := bE3.lt
   have lV := bV3.lt
   have f1 := bE3.at_ 1
   have f2 := bE3.at_ 2
   have v1 := bV3.at_ 1
   simp at f1 f2 v1
   go_wp2_with fail
   have hr := row_lit w3 9 #[.string kw, .string s, .string y, .string vt]
   have hj := HJ.out _ 4 _ [kw, s, y, vt] _ (by simp) hr (by simp) (by simp)
   rw [HTX.out [kw, s, y, vt] (by simp)] at hj
   refine hj.mono ?_
   clear hr hj
   rintro e w4 ⟨rfl, O4⟩
   have HO4 := Lib.hid ((HO3.out.alloc (.cells #[.string kw, .string s, .string y, .string vt] 9)).trans O4)
   clear O4
   go_wp2
   go_ret2
   exact ⟨rfl, HO4.out⟩
end Go.Proofs.YthaeomdpaadilaaGreatDoor
