/- Parts. -/
import Derived.Test.YtojpohmijlkagaaDoorLaw43AllK1
import Derived.Lib.MapLaws
import Derived.Lib.TrimUEq
import Derived.Lib.RuneCount
set_option maxRecDepth 10000
set_option maxHeartbeats 16000000
set_option linter.unusedVariables false
set_option linter.unusedSimpArgs false
namespace Go.Proofs.YtojpohmijlkagaaDoor
theorem own : ownKnob Tryd.prog.godebug = none := by kernel_rfl
theorem laidOut : laidOutB Tryd.prog = true := by kernel_rfl
open Go.Lib
def by_ (s : ByteArray) : List UInt8 := s.data.toList
theorem by_length (s : ByteArray) : (by_ s).length = s.size := by
 unfold by_;exact (size_eq s).symm
theorem by_inj {s t : ByteArray} (h : by_ s = by_ t) : s = t := by
 unfold by_ at h
 cases s
 cases t
 simp at h;rw [h]
theorem by_extract (s : ByteArray) (a b : Nat) : by_ (s.extract a b) = ((by_ s).take b).drop a := by
 unfold by_;rw [ByteArray.data_extract, Array.toList_extract, List.extract_eq_take_drop, List.drop_take]
theorem by_append (s t : ByteArray) : by_ (s ++ t) = by_ s ++ by_ t := by
 unfold by_;rw [ByteArray.data_append, Array.toList_append]
theorem dec_small {n b0 b1 b2 b3 : Nat} (h : b0 < 128) : decodeN n b0 b1 b2 b3 = (b0, 1) := by
 unfold decodeN;rw [if_pos h]
theorem dec_nl (n b0 b1 b2 b3 : Nat) : ((decodeN n b0 b1 b2 b3).1 = 10 → b0 = 10 ∧ (decodeN n b0 b1 b2 b3).2 = 1) ∧
  ((decodeN n b0 b1 b2 b3).1 ≠ 10 → b0 ≠ 10 ∧ (1 < (decodeN n b0 b1 b2 b3).2 → b1 ≠ 10) ∧ (2 < (decodeN n b0 b1 b2 b3).2 → b2 ≠ 10) ∧ (3 < (decodeN n b0 b1 b2 b3).2 → b3 ≠ 10)) ∧
  1 ≤ (decodeN n b0 b1 b2 b3).2 ∧ (decodeN n b0 b1 b2 b3).2 ≤ 4 ∧ (1 ≤ n → (decodeN n b0 b1 b2 b3).2 ≤ n) := by
 by_cases h0 : b0 < 128
 ·rw [dec_small h0];refine ⟨fun h => ⟨h, rfl⟩, fun h => ⟨h, fun h => absurd h (by omega), fun h => absurd h (by omega), fun h => absurd h (by omega)⟩, by omega, by omega, fun h => h⟩
 ·rcases decodeN_shape n b0 b1 b2 b3 with ⟨c, e⟩ | ⟨c1, c2, c3, cv, e⟩ | ⟨c1, c2, c3, c4, cv, cs, e⟩ | ⟨c1, c2, c3, c4, c5, cv, cw, e⟩ | e
  ·omega
  all_goals (rw [e]; dsimp only; refine ⟨fun h => by omega, fun h => ⟨by omega, fun h => by omega, fun h => by omega, fun h => by omega⟩, by omega, by omega, fun h => by omega⟩)
section
variable (s : ByteArray) (pos : Nat)
theorem width_le (h : pos < s.size) : 1 ≤ (Utf8.decode s pos).2 ∧ pos + (Utf8.decode s pos).2 ≤ s.size := by
 rw [decode_N, ← by_length] at *;have := (dec_nl ((by_ s).length - pos) ((by_ s).getD pos 0).toNat ((by_ s).getD (pos + 1) 0).toNat ((by_ s).getD (pos + 2) 0).toNat ((by_ s).getD (pos + 3) 0).toNat).2.2;unfold by_ at *;omega
theorem byte_eq (b : UInt8) : b.toNat = 10 ↔ b = 10 := by
 constructor
 ·intro h;exact UInt8.toNat_inj.1 h
 ·rintro rfl
  rfl
theorem nl_here (h : pos < s.size) (hr : (Utf8.decode s pos).1 = 10) : (by_ s)[pos]? = some 10 ∧ (Utf8.decode s pos).2 = 1 := by
 rw [decode_N] at *;have := (dec_nl (s.data.toList.length - pos) (s.data.toList.getD pos 0).toNat (s.data.toList.getD (pos + 1) 0).toNat (s.data.toList.getD (pos + 2) 0).toNat (s.data.toList.getD (pos + 3) 0).toNat).1 hr;refine ⟨?_, this.2⟩;have hl : pos < (by_ s).length := by rw [by_length]; exact h
 rw [List.getElem?_eq_getElem hl];have h1 := (byte_eq _).1 this.1;unfold by_ at *
 simpa [List.getD_eq_getElem?_getD, List.getElem?_eq_getElem hl] using h1
theorem nl_none (h : pos < s.size) (hr : (Utf8.decode s pos).1 ≠ 10) : ∀ b ∈ ((by_ s).drop pos).take (Utf8.decode s pos).2, b ≠ 10 := by
 intro b hb e;subst e;obtain ⟨j, hj⟩ := List.mem_iff_getElem?.1 hb;have hw := (width_le s pos h).2;have hjw : j < (Utf8.decode s pos).2 := by
  rcases Nat.lt_or_ge j (Utf8.decode s pos).2 with h1 | h1
  ·exact h1
  ·rw [List.getElem?_take, if_neg (by omega)] at hj
   cases hj
 rw [List.getElem?_take, if_pos hjw, List.getElem?_drop] at hj;have hg : ((by_ s).getD (pos + j) 0).toNat = 10 := by
  rw [List.getD_eq_getElem?_getD, hj]
  rfl
 rw [decode_N] at hr hjw;obtain ⟨-, h2, -, h4, -⟩ := dec_nl (s.data.toList.length - pos) (s.data.toList.getD pos 0).toNat (s.data.toList.getD (pos + 1) 0).toNat (s.data.toList.getD (pos + 2) 0).toNat (s.data.toList.getD (pos + 3) 0).toNat;obtain ⟨a0, a1, a2, a3⟩ := h2 hr;unfold by_ at hg;have : j = 0 ∨ j = 1 ∨ j = 2 ∨ j = 3 := by omega
 rcases this with rfl | rfl | rfl | rfl
 ·exact a0 hg
 ·exact a1 hjw hg
 ·exact a2 hjw hg
 ·exact a3 hjw hg
end
def cutL : List UInt8 → List UInt8 → List (List UInt8)
 | cur, [] => if cur = [] then [] else [cur]
 | cur, b :: t => if b = 10 then cur :: cutL [] t else cutL (cur ++ [b]) t
def linesOf (l : List UInt8) : List (List UInt8) := cutL [] l
theorem cutL_skip (m : List UInt8) : ∀ (cur t : List UInt8), (∀ b ∈ m, b ≠ 10) → cutL cur (m ++ t) = cutL (cur ++ m) t := by
 induction m with
 | nil => intro cur t _; simp
 | cons b m ih =>
  intro cur t h;rw [List.cons_append, cutL, if_neg (h b (by simp)), ih _ _ (fun x hx => h x (by simp [hx])), List.append_assoc]
  rfl
theorem cutL_nl (cur t : List UInt8) : cutL cur (10 :: t) = cur :: cutL [] t := by
 rw [cutL, if_pos rfl]
theorem cutL_len : ∀ (t cur : List UInt8), (cutL cur t).length ≤ t.length + 1 := by
 intro t
 induction t with
 | nil => intro cur; unfold cutL; split <;> simp
 | cons b t ih =>
  intro cur;unfold cutL
  split
  ·have := ih []; simp; omega
  ·have := ih (cur ++ [b]); simp; omega
theorem cutL_mem : ∀ (t cur x : List UInt8), x ∈ cutL cur t → x.length ≤ cur.length + t.length := by
 intro t
 induction t with
 | nil =>
  intro cur x hx;unfold cutL at hx
  split at hx
  ·cases hx
  ·simp at hx; subst hx; simp
 | cons b t ih =>
  intro cur x hx;unfold cutL at hx
  split at hx
  ·rcases List.mem_cons.1 hx with rfl | h
   ·omega
   ·have := ih [] x h; simp at this ⊢; omega
  ·have := ih (cur ++ [b]) x hx; simp at this ⊢; omega
end Go.Proofs.YtojpohmijlkagaaDoor
