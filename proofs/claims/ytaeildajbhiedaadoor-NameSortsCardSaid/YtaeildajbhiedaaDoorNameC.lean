/- Contracts of the package name: Turned (and slices.Reverse at runes). -/
import Derived.Test.YtaeildajbhiedaaDoorNameB
import Derived.Laws.Cover4
set_option linter.unusedVariables false
set_option linter.unusedSimpArgs false
namespace Go.Proofs.YtaeildajbhiedaaDoor
open Go.RowKit
open Go.Lib hiding intOf
attribute [local go_sem ↓] Go.wp_at_zero Go.wp_at_succ

def mir (n k m : Nat) : Nat := if m < k ∨ n ≤ m + k then n - 1 - m else m
def i32 (r : Nat) : Value := .int .i32 (r : Int)
def i32s (rs : List Nat) : List Value := rs.map i32

set_option maxHeartbeats 2000000 in
theorem reverse_own (g cap n : Nat) (cur : Array Value) (rs : List Nat) (w : World) (hn : rs.length = n) (hb : Blk w g 21 cur) (hcur : ∀ m, m < n → cur[m]? = some (i32 (rs.getD m 0))) (hc : n ≤ cap) (hm : cap ≤ maxLen) :
    Calls Tryd.prog 39 #[.slice (some ⟨g, 0, none⟩) n cap] w fun e w' => e = .returned (.tuple #[]) ∧ Only [g] w w' ∧ ∃ cur' : Array Value, Blk w' g 21 cur' ∧ cur'.size = cur.size ∧ ∀ m, m < n → cur'[m]? = some (i32 (rs.getD (n - 1 - m) 0)) := by
  have HN := Lib.hid hn
  have HB := Lib.hid hb
  have HC := Lib.hid hcur
  unfold maxLen at hm
  have hwn : IntKind.i64.wrap ((n : Int) - 1) = (n : Int) - 1 := IntWalk.i64_in _ (by omega)
  clear hn hb hcur
  go_enter Tryd.func39, Tryd.ntmps39
  go_wp2
  go_loopw [2, 3] (fun i j wr => ∃ (k : Nat) (jz : Int) (ck : Array Value), i = .int .i64 k ∧ j = .int .i64 jz ∧ jz = (n : Int) - 1 - k ∧ k ≤ n ∧ Hid (Only [g] w wr) ∧ Hid (Blk wr g 21 ck) ∧ Hid (ck.size = cur.size) ∧ Hid (∀ m, m < n → ck[m]? = some (i32 (rs.getD (mir n k m) 0)))) (fun i _ _ => n - (intOf i).toNat)
  case atStart =>
    refine ⟨0, (n : Int) - 1, cur, rfl, rfl, by omega, by omega, Lib.hid (Only.refl _ _), HB, Lib.hid rfl, Lib.hid (fun m hm => ?_)⟩
    rw [HC.out m hm]
    have : mir n 0 m = m := by unfold mir; rw [if_neg (by omega)]
    rw [this]
  case round =>
    obtain ⟨k, jz, ck, rfl, rfl, hj, hk, HO, HBK, HSZ, HCK⟩ := hrel
    by_cases hlt : (k : Int) < jz
    · obtain ⟨jn, rfl⟩ : ∃ jn : Nat, jz = jn := ⟨jz.toNat, by omega⟩
      have hjn : n = k + jn + 1 := by omega
      have hkj : k < jn := by omega
      have c1 : wr.cell? ⟨g, k, none⟩ = some (i32 (rs.getD k 0)) := by
        rw [HBK.out.at_, HCK.out k (by omega)]
        have : mir n k k = k := by unfold mir; rw [if_neg (by omega)]
        rw [this]
      have c2 : wr.cell? ⟨g, jn, none⟩ = some (i32 (rs.getD jn 0)) := by
        rw [HBK.out.at_, HCK.out jn (by omega)]
        have : mir n k jn = jn := by unfold mir; rw [if_neg (by omega)]
        rw [this]
      have f1 := HBK.out.free k
      have f2 := HBK.out.free jn
      have hk0 : (0 : Int) ≤ (k : Int) := Int.natCast_nonneg _
      have hj0 : (0 : Int) ≤ (jn : Int) := Int.natCast_nonneg _
      have hk1 : (k : Int) < (n : Int) := by omega
      have hj1 : (jn : Int) < (n : Int) := by omega
      have hwk : IntKind.i64.wrap ((k : Int) + 1) = (k : Int) + 1 := IntWalk.i64_in _ (by omega)
      have hwj : IntKind.i64.wrap ((jn : Int) - 1) = (jn : Int) - 1 := IntWalk.i64_in _ (by omega)
      obtain ⟨a, ha⟩ : ∃ a, a = rs.getD k 0 := ⟨_, rfl⟩
      obtain ⟨b, hb⟩ : ∃ b, b = rs.getD jn 0 := ⟨_, rfl⟩
      rw [← ha] at c1
      rw [← hb] at c2
      have HA := Lib.hid ha
      have HBB := Lib.hid hb
      unfold i32 at c1 c2
      clear hj ha hb
      go_wp2_with fail
      go_region
      go_wp2
      have NEW : ∀ x : World, Only [g] w x → Blk x g 21 ck → Only [g] w ((x.setCell ⟨g, k, none⟩ (i32 b)).setCell ⟨g, jn, none⟩ (i32 a)) ∧ Blk ((x.setCell ⟨g, k, none⟩ (i32 b)).setCell ⟨g, jn, none⟩ (i32 a)) g 21 ((ck.setIfInBounds k (i32 b)).setIfInBounds jn (i32 a)) :=
        fun x hO hB => ⟨(hO.put (by simp) _).put (by simp) _, (hB.put _ _).put _ _⟩
      have CELLS : ∀ m, m < n → ((ck.setIfInBounds k (i32 b)).setIfInBounds jn (i32 a))[m]? = some (i32 (rs.getD (mir n (k + 1) m) 0)) := by
        intro m hm
        have hs : m < ck.size := (Array.getElem?_eq_some_iff.1 (HCK.out m hm)).1
        rw [Array.getElem?_setIfInBounds]
        by_cases e1 : jn = m
        · subst e1
          rw [if_pos rfl, if_pos (by rw [Array.size_setIfInBounds]; exact hs)]
          have : mir n (k + 1) jn = k := by unfold mir; rw [if_pos (by omega)]; omega
          rw [this, HA.out]
        · rw [if_neg e1, Array.getElem?_setIfInBounds]
          by_cases e2 : k = m
          · subst e2
            rw [if_pos rfl, if_pos hs]
            have : mir n (k + 1) k = jn := by unfold mir; rw [if_pos (by omega)]; omega
            rw [this, HBB.out]
          · rw [if_neg e2, HCK.out m hm]
            have : mir n (k + 1) m = mir n k m := by
              unfold mir
              by_cases e3 : m < k ∨ n ≤ m + k
              · rw [if_pos e3, if_pos (by omega)]
              · rw [if_neg e3, if_neg (by omega)]
            rw [this]
      go_roundw
      case rel => exact ⟨k + 1, (jn : Int) - 1, _, by go_num, rfl, by omega, by omega, Lib.hid (NEW _ HO.out HBK.out).1.drew, Lib.hid (NEW _ HO.out HBK.out).2.drew, Lib.hid (by rw [Array.size_setIfInBounds, Array.size_setIfInBounds, HSZ.out]), Lib.hid CELLS⟩
      case measure => simp [intOf]; omega
    · go_wp2
      go_end0
      refine ⟨rfl, HO.out, ck, HBK.out, HSZ.out, fun m hm => ?_⟩
      rw [HCK.out m hm]
      have : mir n k m = n - 1 - m := by
        unfold mir
        split
        · rfl
        · omega
      rw [this]
      simp [List.getD_eq_getElem?_getD]

theorem encD1 (r : Nat) (c1 : r < 128) : (Utf8.encode (r : Int)).data.toList = [UInt8.ofNat (r)] := by
  have v : Utf8.valid (r : Int) = true := by simp [Utf8.valid]; omega
  simp [Utf8.encode, v, c1]
theorem encD2 (r : Nat) (c1 : ¬ r < 128) (c2 : r < 2048) : (Utf8.encode (r : Int)).data.toList = [UInt8.ofNat (192 + r / 64), UInt8.ofNat (128 + r % 64)] := by
  have v : Utf8.valid (r : Int) = true := by simp [Utf8.valid]; omega
  simp [Utf8.encode, v, c1, c2]
theorem encD3 (r : Nat) (c2 : ¬ r < 2048) (c3 : r < 65536) (hv : r < 55296 ∨ 57344 ≤ r) : (Utf8.encode (r : Int)).data.toList = [UInt8.ofNat (224 + r / 4096), UInt8.ofNat (128 + r / 64 % 64), UInt8.ofNat (128 + r % 64)] := by
  have v : Utf8.valid (r : Int) = true := by simp [Utf8.valid]; omega
  have c1 : ¬ r < 128 := by omega
  simp [Utf8.encode, v, c1, c2, c3]
theorem encD4 (r : Nat) (c3 : ¬ r < 65536) (c4 : r ≤ 1114111) : (Utf8.encode (r : Int)).data.toList = [UInt8.ofNat (240 + r / 262144), UInt8.ofNat (128 + r / 4096 % 64), UInt8.ofNat (128 + r / 64 % 64), UInt8.ofNat (128 + r % 64)] := by
  have v : Utf8.valid (r : Int) = true := by simp [Utf8.valid]; omega
  have c1 : ¬ r < 128 := by omega
  have c2 : ¬ r < 2048 := by omega
  simp [Utf8.encode, v, c1, c2, c3]
theorem encD5 (r : Nat) (h : (55296 ≤ r ∧ r ≤ 57343) ∨ 1114111 < r) : (Utf8.encode (r : Int)).data.toList = [239, 191, 189] := by
  have v : Utf8.valid (r : Int) = false := by simp [Utf8.valid]; omega
  simp [Utf8.encode, v, Utf8.runeError]
theorem encF5 (r : Nat) (h : (55296 ≤ r ∧ r ≤ 57343) ∨ 1114111 < r) : encodeRune (r : Int) = [239, 191, 189] := by
  unfold encodeRune
  rw [encodeRuneZ_bad (by omega)]
  simp
theorem encF1 (r : Nat) (c1 : r < 128) : encodeRune (r : Int) = [UInt8.ofNat (r)] := by
  unfold encodeRune
  have h0 : ((r : Int)).toNat = r := by omega
  rw [encodeRuneZ_one (by omega) (by omega)]
  simp only [List.map_cons, List.map_nil, h0, Nat.toUInt8]
theorem encF2 (r : Nat) (c1 : ¬ r < 128) (c2 : r < 2048) : encodeRune (r : Int) = [UInt8.ofNat (192 + r / 64), UInt8.ofNat (128 + r % 64)] := by
  unfold encodeRune
  have h0 : ((192 : Int) + (r : Int) / 64).toNat = 192 + r / 64 := by omega
  have h1 : ((128 : Int) + (r : Int) % 64).toNat = 128 + r % 64 := by omega
  rw [encodeRuneZ_two (by omega) (by omega)]
  simp only [List.map_cons, List.map_nil, h0, h1, Nat.toUInt8]
theorem encF3 (r : Nat) (c2 : ¬ r < 2048) (c3 : r < 65536) (hv : r < 55296 ∨ 57344 ≤ r) : encodeRune (r : Int) = [UInt8.ofNat (224 + r / 4096), UInt8.ofNat (128 + r / 64 % 64), UInt8.ofNat (128 + r % 64)] := by
  unfold encodeRune
  have h0 : ((224 : Int) + (r : Int) / 4096).toNat = 224 + r / 4096 := by omega
  have h1 : ((128 : Int) + (r : Int) / 64 % 64).toNat = 128 + r / 64 % 64 := by omega
  have h2 : ((128 : Int) + (r : Int) % 64).toNat = 128 + r % 64 := by omega
  rw [encodeRuneZ_three (by omega)]
  simp only [List.map_cons, List.map_nil, h0, h1, h2, Nat.toUInt8]
theorem encF4 (r : Nat) (c3 : ¬ r < 65536) (c4 : r ≤ 1114111) : encodeRune (r : Int) = [UInt8.ofNat (240 + r / 262144), UInt8.ofNat (128 + r / 4096 % 64), UInt8.ofNat (128 + r / 64 % 64), UInt8.ofNat (128 + r % 64)] := by
  unfold encodeRune
  have h0 : ((240 : Int) + (r : Int) / 262144).toNat = 240 + r / 262144 := by omega
  have h1 : ((128 : Int) + (r : Int) / 4096 % 64).toNat = 128 + r / 4096 % 64 := by omega
  have h2 : ((128 : Int) + (r : Int) / 64 % 64).toNat = 128 + r / 64 % 64 := by omega
  have h3 : ((128 : Int) + (r : Int) % 64).toNat = 128 + r % 64 := by omega
  rw [encodeRuneZ_four (by omega) (by omega)]
  simp only [List.map_cons, List.map_nil, h0, h1, h2, h3, Nat.toUInt8]
theorem enc_join {x y : ByteArray} {l m : List UInt8} (h : y = x) (a : y.data.toList = l) (b : m = l) : by_ x = m := by
  unfold by_
  rw [← h, a, b]
theorem enc_bytes (r : Nat) : by_ (Utf8.encode (r : Int)) = encodeRune (r : Int) := by
  generalize h : Utf8.encode (r : Int) = x
  by_cases c1 : r < 128
  · exact enc_join h (encD1 r c1) (encF1 r c1)
  · by_cases c2 : r < 2048
    · exact enc_join h (encD2 r c1 c2) (encF2 r c1 c2)
    · by_cases hb : (55296 ≤ r ∧ r ≤ 57343) ∨ 1114111 < r
      · exact enc_join h (encD5 r hb) (encF5 r hb)
      · by_cases c3 : r < 65536
        · exact enc_join h (encD3 r c2 c3 (by omega)) (encF3 r c2 c3 (by omega))
        · exact enc_join h (encD4 r c3 (by omega)) (encF4 r c3 (by omega))
theorem bytes_enc (rs : List Nat) : by_ (runesBytes (rs.map fun (r : Nat) => (r : Int))) = encL rs := by
  have : ∀ (rs : List Nat) (s : ByteArray), by_ ((rs.map fun (r : Nat) => (r : Int)).foldl (fun r n => r ++ Utf8.encode n) s) = by_ s ++ encL rs := by
    intro rs
    induction rs with
    | nil => intro s; simp [encL]
    | cons r rs ih =>
      intro s
      rw [List.map_cons, List.foldl_cons, ih, by_append, enc_bytes]
      simp [encL, List.append_assoc]
  have h := this rs ByteArray.empty
  rw [show by_ ByteArray.empty = [] from rfl, List.nil_append] at h
  exact h

theorem tinfo_rune : (Tryd.prog.info? 21).map (fun i => (i.zero, i.size, i.bytes)) = some (some (.int .i32 0), 1, 4) := by kernel_rfl

set_option maxHeartbeats 2000000 in
theorem reverse_none (w : World) :
    Calls Tryd.prog 39 #[.slice none 0 0] w fun e w' => e = .returned (.tuple #[]) ∧ w = w' := by
  have hw1 : IntKind.i64.wrap (-1) = -1 := by rfl
  go_enter Tryd.func39, Tryd.ntmps39
  go_wp2
  go_loopw [2, 3] (fun i j wr => i = .int .i64 0 ∧ j = .int .i64 (-1) ∧ wr = w) (fun _ _ _ => 0)
  case atStart => exact ⟨rfl, rfl, rfl⟩
  case round =>
    obtain ⟨rfl, rfl, rfl⟩ := hrel
    go_wp2
    go_end0
    exact ⟨rfl, rfl⟩

end Go.Proofs.YtaeildajbhiedaaDoor
