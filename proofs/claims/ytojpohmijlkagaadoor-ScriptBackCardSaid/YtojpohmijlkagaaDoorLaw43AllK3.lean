/- Parts. -/
import Derived.Test.YtojpohmijlkagaaDoorLaw43AllK2
import Derived.Lib.ValidLaws
set_option maxRecDepth 10000
set_option maxHeartbeats 16000000
set_option linter.unusedVariables false
set_option linter.unusedSimpArgs false
namespace Go.Proofs.YtojpohmijlkagaaDoor
open Go.Lib
def szOf (n b0 b1 b2 b3 : Nat) : Nat := if decodeN n b0 b1 b2 b3 = (65533, 1) then 0 else (decodeN n b0 b1 b2 b3).2
theorem sz_ascii {n b0 b1 b2 b3 : Nat} (h : b0 < 128) : szOf n b0 b1 b2 b3 = 1 := by
 unfold szOf;rw [dec_small h, if_neg];intro e;have := congrArg Prod.fst e;simp at this;omega
theorem sz_bad {n b0 b1 b2 b3 : Nat} (h : decodeN n b0 b1 b2 b3 = (65533, 1)) : szOf n b0 b1 b2 b3 = 0 := by
 unfold szOf;rw [if_pos h]
theorem sz_none {n b0 b1 b2 b3 : Nat} (h0 : 128 ≤ b0) (h : b0 < 194 ∨ 244 < b0) (hb : b0 < 256) : szOf n b0 b1 b2 b3 = 0 :=
 sz_bad (decodeN_bad n b0 b1 b2 b3 (by omega))
theorem sz_two_bad {n b0 b1 b2 b3 : Nat} (h0 : 194 ≤ b0) (h1 : b0 ≤ 223) (h : n < 2 ∨ b1 < 128 ∨ 191 < b1) (hb : b1 < 256) : szOf n b0 b1 b2 b3 = 0 := by
 apply sz_bad
 rcases decodeN_shape n b0 b1 b2 b3 with ⟨c, e⟩ | ⟨c1, c2, c3, cv, e⟩ | ⟨c1, c2, c3, c4, cv, cs, e⟩ | ⟨c1, c2, c3, c4, c5, cv, cw, e⟩ | e
 ·omega
 ·omega
 ·omega
 ·omega
 ·exact e
theorem sz_two {n b0 b1 b2 b3 : Nat} (h0 : 194 ≤ b0) (h1 : b0 ≤ 223) (h : 2 ≤ n) (hl : 128 ≤ b1) (hu : b1 ≤ 191) : szOf n b0 b1 b2 b3 = 2 := by
 have e : decodeN n b0 b1 b2 b3 = (b0 % 32 * 64 + b1 % 64, 2) := by
  unfold decodeN;rw [if_neg (by omega), if_pos ⟨by omega, by omega, by omega⟩, if_pos (by omega)]
 unfold szOf;rw [e, if_neg];intro e2;have := congrArg Prod.snd e2;simp at this
theorem sz_three_bad {n b0 b1 b2 b3 : Nat} (h0 : 224 ≤ b0) (h1 : b0 ≤ 239) (hb1 : b1 < 256) (hb2 : b2 < 256)
  (h : n < 3 ∨ b1 < 128 ∨ 191 < b1 ∨ b2 < 128 ∨ 191 < b2 ∨ (b0 - 224) * 4096 + (b1 - 128) * 64 + (b2 - 128) < 2048 ∨ (55296 ≤ (b0 - 224) * 4096 + (b1 - 128) * 64 + (b2 - 128) ∧ (b0 - 224) * 4096 + (b1 - 128) * 64 + (b2 - 128) ≤ 57343)) : szOf n b0 b1 b2 b3 = 0 := by
 apply sz_bad
 rcases decodeN_shape n b0 b1 b2 b3 with ⟨c, e⟩ | ⟨c1, c2, c3, cv, e⟩ | ⟨c1, c2, c3, c4, cv, cs, e⟩ | ⟨c1, c2, c3, c4, c5, cv, cw, e⟩ | e
 ·omega
 ·omega
 ·exfalso
  have a1 : b0 % 16 = b0 - 224 := by omega
  have a2 : b1 % 64 = b1 - 128 := by omega
  have a3 : b2 % 64 = b2 - 128 := by omega
  rw [a1, a2, a3] at cv cs;omega
 ·omega
 ·exact e
theorem sz_three {n b0 b1 b2 b3 : Nat} (h0 : 224 ≤ b0) (h1 : b0 ≤ 239) (h : 3 ≤ n) (hl : 128 ≤ b1) (hu : b1 ≤ 191) (hl2 : 128 ≤ b2) (hu2 : b2 ≤ 191)
  (hv : 2048 ≤ (b0 - 224) * 4096 + (b1 - 128) * 64 + (b2 - 128)) (hs : (b0 - 224) * 4096 + (b1 - 128) * 64 + (b2 - 128) < 55296 ∨ 57343 < (b0 - 224) * 4096 + (b1 - 128) * 64 + (b2 - 128)) : szOf n b0 b1 b2 b3 = 3 := by
 have a1 : b0 % 16 = b0 - 224 := by omega
 have a2 : b1 % 64 = b1 - 128 := by omega
 have a3 : b2 % 64 = b2 - 128 := by omega
 have e : decodeN n b0 b1 b2 b3 = ((b0 - 224) * 4096 + (b1 - 128) * 64 + (b2 - 128), 3) := by
  unfold decodeN;rw [if_neg (by omega), if_neg (by omega), if_pos ⟨by omega, ⟨by omega, by omega⟩, by omega, by omega⟩, a1, a2, a3, if_pos ⟨by omega, by omega⟩]
 unfold szOf;rw [e, if_neg];intro e2;have := congrArg Prod.snd e2;simp at this
theorem sz_four_bad {n b0 b1 b2 b3 : Nat} (h0 : 240 ≤ b0) (h1 : b0 ≤ 244) (hb1 : b1 < 256) (hb2 : b2 < 256) (hb3 : b3 < 256)
  (h : n < 4 ∨ b1 < 128 ∨ 191 < b1 ∨ b2 < 128 ∨ 191 < b2 ∨ b3 < 128 ∨ 191 < b3 ∨ (b0 - 240) * 262144 + (b1 - 128) * 4096 + (b2 - 128) * 64 + (b3 - 128) < 65536 ∨ 1114111 < (b0 - 240) * 262144 + (b1 - 128) * 4096 + (b2 - 128) * 64 + (b3 - 128)) : szOf n b0 b1 b2 b3 = 0 := by
 apply sz_bad
 rcases decodeN_shape n b0 b1 b2 b3 with ⟨c, e⟩ | ⟨c1, c2, c3, cv, e⟩ | ⟨c1, c2, c3, c4, cv, cs, e⟩ | ⟨c1, c2, c3, c4, c5, cv, cw, e⟩ | e
 ·omega
 ·omega
 ·omega
 ·exfalso
  have a1 : b0 % 8 = b0 - 240 := by omega
  have a2 : b1 % 64 = b1 - 128 := by omega
  have a3 : b2 % 64 = b2 - 128 := by omega
  have a4 : b3 % 64 = b3 - 128 := by omega
  rw [a1, a2, a3, a4] at cv cw;omega
 ·exact e
theorem sz_four {n b0 b1 b2 b3 : Nat} (h0 : 240 ≤ b0) (h1 : b0 ≤ 244) (h : 4 ≤ n) (hl : 128 ≤ b1) (hu : b1 ≤ 191) (hl2 : 128 ≤ b2) (hu2 : b2 ≤ 191) (hl3 : 128 ≤ b3) (hu3 : b3 ≤ 191)
  (hv : 65536 ≤ (b0 - 240) * 262144 + (b1 - 128) * 4096 + (b2 - 128) * 64 + (b3 - 128)) (hs : (b0 - 240) * 262144 + (b1 - 128) * 4096 + (b2 - 128) * 64 + (b3 - 128) ≤ 1114111) : szOf n b0 b1 b2 b3 = 4 := by
 have a1 : b0 % 8 = b0 - 240 := by omega
 have a2 : b1 % 64 = b1 - 128 := by omega
 have a3 : b2 % 64 = b2 - 128 := by omega
 have a4 : b3 % 64 = b3 - 128 := by omega
 have e : decodeN n b0 b1 b2 b3 = ((b0 - 240) * 262144 + (b1 - 128) * 4096 + (b2 - 128) * 64 + (b3 - 128), 4) := by
  unfold decodeN;rw [if_neg (by omega), if_neg (by omega), if_neg (by omega), if_pos ⟨by omega, ⟨by omega, by omega⟩, ⟨by omega, by omega⟩, by omega, by omega⟩, a1, a2, a3, a4, if_pos ⟨by omega, by omega⟩]
 unfold szOf;rw [e, if_neg];intro e2;have := congrArg Prod.snd e2;simp at this
def szAt (s : ByteArray) (pos : Nat) : Nat := szOf (s.size - pos) ((by_ s).getD pos 0).toNat ((by_ s).getD (pos + 1) 0).toNat ((by_ s).getD (pos + 2) 0).toNat ((by_ s).getD (pos + 3) 0).toNat
theorem dec_at (s : ByteArray) (pos : Nat) : Utf8.decode s pos = decodeN (s.size - pos) ((by_ s).getD pos 0).toNat ((by_ s).getD (pos + 1) 0).toNat ((by_ s).getD (pos + 2) 0).toNat ((by_ s).getD (pos + 3) 0).toNat := by
 rw [decode_N, ← by_length]
 rfl
theorem decL_at (s : ByteArray) (pos : Nat) : decodeL ((by_ s).drop pos) = Utf8.decode s pos := by
 rw [decodeL_N, dec_at, List.length_drop, by_length]
 congr 2
 all_goals simp [List.getD_eq_getElem?_getD, List.getElem?_drop]
theorem sz_step (s : ByteArray) (pos : Nat) (h : pos < s.size) :
  (szAt s pos = 0 ∧ validD ((by_ s).drop pos) = false) ∨
  (szAt s pos = (Utf8.decode s pos).2 ∧ 1 ≤ szAt s pos ∧ pos + szAt s pos ≤ s.size ∧ validD ((by_ s).drop pos) = validD ((by_ s).drop (pos + szAt s pos))) := by
 have hne : (by_ s).drop pos ≠ [] := by
  intro e;have := congrArg List.length e;rw [List.length_drop, by_length] at this;simp at this;omega
 have hst := validD_step _ hne;rw [decL_at] at hst;have hw := width_le s pos h;unfold szAt szOf;rw [← dec_at]
 by_cases hb : Utf8.decode s pos = (65533, 1)
 ·left
  rw [if_pos hb];refine ⟨rfl, ?_⟩;rw [hst, if_pos (by rw [hb]; exact ⟨rfl, rfl⟩)]
 ·right
  rw [if_neg hb];refine ⟨rfl, hw.1, hw.2, ?_⟩;rw [hst, if_neg (fun h => hb (Prod.ext h.1 h.2)), List.drop_drop]
theorem byte_at (s : ByteArray) (k : Nat) (h : k < s.size) : s[k].toNat = ((by_ s).getD k 0).toNat := by
 have hl : k < (by_ s).length := by rw [by_length]; exact h
 rw [List.getD_eq_getElem?_getD, List.getElem?_eq_getElem hl]
 rfl
theorem byte_lt (s : ByteArray) (k : Nat) : ((by_ s).getD k 0).toNat < 256 := UInt8.toNat_lt _
end Go.Proofs.YtojpohmijlkagaaDoor
