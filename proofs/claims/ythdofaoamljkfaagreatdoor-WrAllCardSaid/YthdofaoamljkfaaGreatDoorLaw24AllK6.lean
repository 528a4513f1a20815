/- Parts. -/
import Derived.Test.YthdofaoamljkfaaGreatDoorLaw24AllK5
import Derived.OwnWalk
import Derived.Shelf.Unicode.DecodeAny
set_option maxRecDepth 10000
set_option maxHeartbeats 16000000
set_option linter.unusedVariables false
set_option linter.unusedSimpArgs false
namespace Go.Proofs.YthdofaoamljkfaaGreatDoor
open Go.RowKit
open Go.Lib
attribute [local go_sem ↓] Go.wp_at_zero Go.wp_at_succ
theorem digit_any (r : Nat) (w : World) :
  Calls Tryz.prog 105 #[.int .i32 (r : Int)] w fun e w' => e = .returned (.bool (digitR r)) ∧ w = w' := by
 by_cases h1 : 48 ≤ r
 ·have f1 : (48 : Int) ≤ (r : Int) := by omega
  by_cases h2 : r ≤ 57
  ·have f2 : (r : Int) ≤ 57 := by omega
   have hr : digitR r = true := by simp [digitR, h1, h2]
   rw [hr];clear h1 h2 hr;go_enter Tryz.func105, Tryz.ntmps105;go_wp2
   go_ret
   exact ⟨rfl, rfl⟩
  ·have f2 : decide ((r : Int) ≤ 57) = false := decide_eq_false (by omega);have hr : digitR r = false := by simp [digitR, h2]
   rw [hr];clear h1 h2 hr;go_enter Tryz.func105, Tryz.ntmps105;go_wp2
   go_ret
   exact ⟨rfl, rfl⟩
 ·have f1 : decide ((48 : Int) ≤ (r : Int)) = false := decide_eq_false (by omega);have hr : digitR r = false := by simp [digitR, h1]
  rw [hr];clear h1 hr;go_enter Tryz.func105, Tryz.ntmps105;go_wp2
  go_ret
  exact ⟨rfl, rfl⟩
theorem may_0 (r : Nat) (w : World) (h : r < 48) :
  Calls Tryz.prog 104 #[.int .i32 (r : Int)] w fun e w' => e = .returned (.bool false) ∧ w = w' := by
 have hd : digitR r = false := by
  unfold digitR;rw [show decide (48 ≤ r) = false from decide_eq_false (by omega)]; rfl
 have HD := Hd (digit_any r w);rw [hd] at HD;have g97 : decide ((97 : Int) ≤ (r : Int)) = false := decide_eq_false (by omega);have g65 : decide ((65 : Int) ≤ (r : Int)) = false := decide_eq_false (by omega);have e95 : ((r : Int) == 95) = false := by simp; omega
 have t127 : decide ((127 : Int) < (r : Int)) = false := decide_eq_false (by omega);clear h hd;go_enter Tryz.func104, Tryz.ntmps104;go_wp2_with fail
 refine (HD.out).mono ?_;rintro e w1 ⟨rfl, rfl⟩;go_wp2
 go_ret
 exact ⟨rfl, rfl⟩
theorem may_1 (r : Nat) (w : World) (h : 48 ≤ r ∧ r ≤ 57) :
  Calls Tryz.prog 104 #[.int .i32 (r : Int)] w fun e w' => e = .returned (.bool true) ∧ w = w' := by
 have hd : digitR r = true := by
  unfold digitR;rw [decide_eq_true (by omega), decide_eq_true (by omega)]; rfl
 have HD := Hd (digit_any r w);rw [hd] at HD;have g97 : decide ((97 : Int) ≤ (r : Int)) = false := decide_eq_false (by omega);have g65 : decide ((65 : Int) ≤ (r : Int)) = false := decide_eq_false (by omega);clear h hd;go_enter Tryz.func104, Tryz.ntmps104;go_wp2_with fail
 refine (HD.out).mono ?_;rintro e w1 ⟨rfl, rfl⟩;go_wp2
 go_ret
 exact ⟨rfl, rfl⟩
theorem may_2 (r : Nat) (w : World) (h : 58 ≤ r ∧ r ≤ 64) :
  Calls Tryz.prog 104 #[.int .i32 (r : Int)] w fun e w' => e = .returned (.bool false) ∧ w = w' := by
 have hd : digitR r = false := by
  unfold digitR;rw [show decide (r ≤ 57) = false from decide_eq_false (by omega)]; exact Bool.and_false _
 have HD := Hd (digit_any r w);rw [hd] at HD;have g97 : decide ((97 : Int) ≤ (r : Int)) = false := decide_eq_false (by omega);have g65 : decide ((65 : Int) ≤ (r : Int)) = false := decide_eq_false (by omega);have e95 : ((r : Int) == 95) = false := by simp; omega
 have t127 : decide ((127 : Int) < (r : Int)) = false := decide_eq_false (by omega);clear h hd;go_enter Tryz.func104, Tryz.ntmps104;go_wp2_with fail
 refine (HD.out).mono ?_;rintro e w1 ⟨rfl, rfl⟩;go_wp2
 go_ret
 exact ⟨rfl, rfl⟩
theorem may_3 (r : Nat) (w : World) (h : 65 ≤ r ∧ r ≤ 90) :
  Calls Tryz.prog 104 #[.int .i32 (r : Int)] w fun e w' => e = .returned (.bool true) ∧ w = w' := by
 have hd : digitR r = false := by
  unfold digitR;rw [show decide (r ≤ 57) = false from decide_eq_false (by omega)]; exact Bool.and_false _
 have HD := Hd (digit_any r w);rw [hd] at HD;have g97 : decide ((97 : Int) ≤ (r : Int)) = false := decide_eq_false (by omega);have g65 : (65 : Int) ≤ (r : Int) := by omega
 have l90 : (r : Int) ≤ 90 := by omega
 clear h hd;go_enter Tryz.func104, Tryz.ntmps104;go_wp2
 go_ret
 exact ⟨rfl, rfl⟩
theorem may_4 (r : Nat) (w : World) (h : 91 ≤ r ∧ r ≤ 94) :
  Calls Tryz.prog 104 #[.int .i32 (r : Int)] w fun e w' => e = .returned (.bool false) ∧ w = w' := by
 have hd : digitR r = false := by
  unfold digitR;rw [show decide (r ≤ 57) = false from decide_eq_false (by omega)]; exact Bool.and_false _
 have HD := Hd (digit_any r w);rw [hd] at HD;have g97 : decide ((97 : Int) ≤ (r : Int)) = false := decide_eq_false (by omega);have g65 : (65 : Int) ≤ (r : Int) := by omega
 have l90 : decide ((r : Int) ≤ 90) = false := decide_eq_false (by omega);have e95 : ((r : Int) == 95) = false := by simp; omega
 have t127 : decide ((127 : Int) < (r : Int)) = false := decide_eq_false (by omega);clear h hd;go_enter Tryz.func104, Tryz.ntmps104;go_wp2_with fail
 refine (HD.out).mono ?_;rintro e w1 ⟨rfl, rfl⟩;go_wp2
 go_ret
 exact ⟨rfl, rfl⟩
theorem may_5 (r : Nat) (w : World) (h : r = 95) :
  Calls Tryz.prog 104 #[.int .i32 (r : Int)] w fun e w' => e = .returned (.bool true) ∧ w = w' := by
 have hd : digitR r = false := by
  unfold digitR;rw [show decide (r ≤ 57) = false from decide_eq_false (by omega)]; exact Bool.and_false _
 have HD := Hd (digit_any r w);rw [hd] at HD;have g97 : decide ((97 : Int) ≤ (r : Int)) = false := decide_eq_false (by omega);have g65 : (65 : Int) ≤ (r : Int) := by omega
 have l90 : decide ((r : Int) ≤ 90) = false := decide_eq_false (by omega);have e95 : ((r : Int) == 95) = true := by simp; omega
 clear h hd;go_enter Tryz.func104, Tryz.ntmps104;go_wp2_with fail
 refine (HD.out).mono ?_;rintro e w1 ⟨rfl, rfl⟩;go_wp2
 go_ret
 exact ⟨rfl, rfl⟩
theorem may_6 (r : Nat) (w : World) (h : r = 96) :
  Calls Tryz.prog 104 #[.int .i32 (r : Int)] w fun e w' => e = .returned (.bool false) ∧ w = w' := by
 have hd : digitR r = false := by
  unfold digitR;rw [show decide (r ≤ 57) = false from decide_eq_false (by omega)]; exact Bool.and_false _
 have HD := Hd (digit_any r w);rw [hd] at HD;have g97 : decide ((97 : Int) ≤ (r : Int)) = false := decide_eq_false (by omega);have g65 : (65 : Int) ≤ (r : Int) := by omega
 have l90 : decide ((r : Int) ≤ 90) = false := decide_eq_false (by omega);have e95 : ((r : Int) == 95) = false := by simp; omega
 have t127 : decide ((127 : Int) < (r : Int)) = false := decide_eq_false (by omega);clear h hd;go_enter Tryz.func104, Tryz.ntmps104;go_wp2_with fail
 refine (HD.out).mono ?_;rintro e w1 ⟨rfl, rfl⟩;go_wp2
 go_ret
 exact ⟨rfl, rfl⟩
theorem may_7 (r : Nat) (w : World) (h : 97 ≤ r ∧ r ≤ 122) :
  Calls Tryz.prog 104 #[.int .i32 (r : Int)] w fun e w' => e = .returned (.bool true) ∧ w = w' := by
 have hd : digitR r = false := by
  unfold digitR;rw [show decide (r ≤ 57) = false from decide_eq_false (by omega)]; exact Bool.and_false _
 have HD := Hd (digit_any r w);rw [hd] at HD;have g97 : (97 : Int) ≤ (r : Int) := by omega
 have l122 : (r : Int) ≤ 122 := by omega
 clear h hd;go_enter Tryz.func104, Tryz.ntmps104;go_wp2
 go_ret
 exact ⟨rfl, rfl⟩
theorem may_8 (r : Nat) (w : World) (h : 123 ≤ r ∧ r ≤ 127) :
  Calls Tryz.prog 104 #[.int .i32 (r : Int)] w fun e w' => e = .returned (.bool false) ∧ w = w' := by
 have hd : digitR r = false := by
  unfold digitR;rw [show decide (r ≤ 57) = false from decide_eq_false (by omega)]; exact Bool.and_false _
 have HD := Hd (digit_any r w);rw [hd] at HD;have g97 : (97 : Int) ≤ (r : Int) := by omega
 have l122 : decide ((r : Int) ≤ 122) = false := decide_eq_false (by omega);have g65 : (65 : Int) ≤ (r : Int) := by omega
 have l90 : decide ((r : Int) ≤ 90) = false := decide_eq_false (by omega);have e95 : ((r : Int) == 95) = false := by simp; omega
 have t127 : decide ((127 : Int) < (r : Int)) = false := decide_eq_false (by omega);clear h hd;go_enter Tryz.func104, Tryz.ntmps104;go_wp2_with fail
 refine (HD.out).mono ?_;rintro e w1 ⟨rfl, rfl⟩;go_wp2
 go_ret
 exact ⟨rfl, rfl⟩
theorem may_9 (r : Nat) (w : World) (h : 128 ≤ r) :
  Calls Tryz.prog 104 #[.int .i32 (r : Int)] w fun e w' => e = .returned (.bool true) ∧ w = w' := by
 have hd : digitR r = false := by
  unfold digitR;rw [show decide (r ≤ 57) = false from decide_eq_false (by omega)]; exact Bool.and_false _
 have HD := Hd (digit_any r w);rw [hd] at HD;have g97 : (97 : Int) ≤ (r : Int) := by omega
 have l122 : decide ((r : Int) ≤ 122) = false := decide_eq_false (by omega);have g65 : (65 : Int) ≤ (r : Int) := by omega
 have l90 : decide ((r : Int) ≤ 90) = false := decide_eq_false (by omega);have e95 : ((r : Int) == 95) = false := by simp; omega
 have t127 : (127 : Int) < (r : Int) := by omega
 clear h hd;go_enter Tryz.func104, Tryz.ntmps104;go_wp2_with fail
 refine (HD.out).mono ?_;rintro e w1 ⟨rfl, rfl⟩;go_wp2
 go_ret
 exact ⟨rfl, rfl⟩
theorem may_any (r : Nat) (w : World) :
  Calls Tryz.prog 104 #[.int .i32 (r : Int)] w fun e w' => e = .returned (.bool (mayR r)) ∧ w = w' := by
 by_cases h0 : r < 48
 ·have hv : mayR r = false := by simp [mayR, digitR]; omega
  rw [hv];exact may_0 r w (by omega)
 by_cases h1 : r ≤ 57
 ·have hv : mayR r = true := by simp [mayR, digitR]; omega
  rw [hv];exact may_1 r w (by omega)
 by_cases h2 : r ≤ 64
 ·have hv : mayR r = false := by simp [mayR, digitR]; omega
  rw [hv];exact may_2 r w (by omega)
 by_cases h3 : r ≤ 90
 ·have hv : mayR r = true := by simp [mayR, digitR]; omega
  rw [hv];exact may_3 r w (by omega)
 by_cases h4 : r ≤ 94
 ·have hv : mayR r = false := by simp [mayR, digitR]; omega
  rw [hv];exact may_4 r w (by omega)
 by_cases h5 : r = 95
 ·have hv : mayR r = true := by simp [mayR, digitR]; omega
  rw [hv];exact may_5 r w (by omega)
 by_cases h6 : r = 96
 ·have hv : mayR r = false := by simp [mayR, digitR]; omega
  rw [hv];exact may_6 r w (by omega)
 by_cases h7 : r ≤ 122
 ·have hv : mayR r = true := by simp [mayR, digitR]; omega
  rw [hv];exact may_7 r w (by omega)
 by_cases h8 : r ≤ 127
 ·have hv : mayR r = false := by simp [mayR, digitR]; omega
  rw [hv];exact may_8 r w (by omega)
 have hv : mayR r = true := by simp [mayR, digitR]; omega
 rw [hv];exact may_9 r w (by omega)
theorem not_reserved {s : ByteArray} (h : ∀ t ∈ resvL, s ≠ t) : reservedL (by_ s) = false := by
 unfold reservedL
 cases hc : (resvL.map by_).contains (by_ s) with
 | false => rfl
 | true =>
  obtain ⟨t, ht, he⟩ := List.mem_map.1 (List.contains_iff_mem.1 hc);exact absurd (by_inj he.symm) (h t ht)
theorem text_ne {s : ByteArray} {l : List UInt8} (h : s ≠ ⟨l.toArray⟩) : (s.toList == l) = false := by
 rw [beq_eq_false_iff_ne];intro e;rw [Lib.toList_data] at e;exact h (by_inj (e.trans List.toList_toArray.symm))
theorem reserved_any (s : ByteArray) (w : World) :
  Calls Tryz.prog 103 #[.string s] w fun e w' => e = .returned (.bool (reservedL (by_ s))) ∧ w = w' := by
 by_cases h0 : s = (⟨#[98, 101, 103, 105, 110]⟩ : ByteArray)
 ·subst h0;rw [show reservedL (by_ (⟨#[98, 101, 103, 105, 110]⟩ : ByteArray)) = true by kernel_rfl];go_enter Tryz.func103, Tryz.ntmps103;go_wp2
  go_ret
  exact ⟨rfl, rfl⟩
 by_cases h1 : s = (⟨#[114, 101, 97, 100]⟩ : ByteArray)
 ·subst h1;rw [show reservedL (by_ (⟨#[114, 101, 97, 100]⟩ : ByteArray)) = true by kernel_rfl];clear h0;go_enter Tryz.func103, Tryz.ntmps103;go_wp2
  go_ret
  exact ⟨rfl, rfl⟩
 by_cases h2 : s = (⟨#[119, 114, 105, 116, 101]⟩ : ByteArray)
 ·subst h2;rw [show reservedL (by_ (⟨#[119, 114, 105, 116, 101]⟩ : ByteArray)) = true by kernel_rfl];clear h0 h1;go_enter Tryz.func103, Tryz.ntmps103;go_wp2
  go_ret
  exact ⟨rfl, rfl⟩
 by_cases h3 : s = (⟨#[111, 107]⟩ : ByteArray)
 ·subst h3;rw [show reservedL (by_ (⟨#[111, 107]⟩ : ByteArray)) = true by kernel_rfl];clear h0 h1 h2;go_enter Tryz.func103, Tryz.ntmps103;go_wp2
  go_ret
  exact ⟨rfl, rfl⟩
 by_cases h4 : s = (⟨#[102, 97, 105, 108]⟩ : ByteArray)
 ·subst h4;rw [show reservedL (by_ (⟨#[102, 97, 105, 108]⟩ : ByteArray)) = true by kernel_rfl];clear h0 h1 h2 h3;go_enter Tryz.func103, Tryz.ntmps103;go_wp2
  go_ret
  exact ⟨rfl, rfl⟩
 by_cases h5 : s = (⟨#[105, 110, 102, 111]⟩ : ByteArray)
 ·subst h5;rw [show reservedL (by_ (⟨#[105, 110, 102, 111]⟩ : ByteArray)) = true by kernel_rfl];clear h0 h1 h2 h3 h4;go_enter Tryz.func103, Tryz.ntmps103;go_wp2
  go_ret
  exact ⟨rfl, rfl⟩
 by_cases h6 : s = (⟨#[110, 105, 108]⟩ : ByteArray)
 ·subst h6;rw [show reservedL (by_ (⟨#[110, 105, 108]⟩ : ByteArray)) = true by kernel_rfl];clear h0 h1 h2 h3 h4 h5;go_enter Tryz.func103, Tryz.ntmps103;go_wp2
  go_ret
  exact ⟨rfl, rfl⟩
 have hr : reservedL (by_ s) = false := not_reserved (fun t ht => by
  simp only [resvL, List.mem_cons, List.not_mem_nil, or_false] at ht;rintro rfl;rcases ht with h | h | h | h | h | h | h
  ·exact h0 h
  ·exact h1 h
  ·exact h2 h
  ·exact h3 h
  ·exact h4 h
  ·exact h5 h
  ·exact h6 h
  )
 rw [hr];have e0 : (s.toList == ([98, 101, 103, 105, 110] : List UInt8)) = false := text_ne h0;have e1 : (s.toList == ([114, 101, 97, 100] : List UInt8)) = false := text_ne h1;have e2 : (s.toList == ([119, 114, 105, 116, 101] : List UInt8)) = false := text_ne h2;have e3 : (s.toList == ([111, 107] : List UInt8)) = false := text_ne h3;have e4 : (s.toList == ([102, 97, 105, 108] : List UInt8)) = false := text_ne h4;have e5 : (s.toList == ([105, 110, 102, 111] : List UInt8)) = false := text_ne h5;have e6 : (s.toList == ([110, 105, 108] : List UInt8)) = false := text_ne h6;clear hr h0 h1 h2 h3 h4 h5 h6;go_enter Tryz.func103, Tryz.ntmps103;go_wp2
 go_ret
 exact ⟨rfl, rfl⟩
theorem rreserved_any (s : ByteArray) (w : World) :
  Calls Tryz.prog 84 #[.string s] w fun e w' => e = .returned (.bool (reservedL (by_ s))) ∧ w = w' := by
 by_cases h0 : s = (⟨#[98, 101, 103, 105, 110]⟩ : ByteArray)
 ·subst h0;rw [show reservedL (by_ (⟨#[98, 101, 103, 105, 110]⟩ : ByteArray)) = true by kernel_rfl];go_enter Tryz.func84, Tryz.ntmps84;go_wp2
  go_ret
  exact ⟨rfl, rfl⟩
 by_cases h1 : s = (⟨#[114, 101, 97, 100]⟩ : ByteArray)
 ·subst h1;rw [show reservedL (by_ (⟨#[114, 101, 97, 100]⟩ : ByteArray)) = true by kernel_rfl];clear h0;go_enter Tryz.func84, Tryz.ntmps84;go_wp2
  go_ret
  exact ⟨rfl, rfl⟩
 by_cases h2 : s = (⟨#[119, 114, 105, 116, 101]⟩ : ByteArray)
 ·subst h2;rw [show reservedL (by_ (⟨#[119, 114, 105, 116, 101]⟩ : ByteArray)) = true by kernel_rfl];clear h0 h1;go_enter Tryz.func84, Tryz.ntmps84;go_wp2
  go_ret
  exact ⟨rfl, rfl⟩
 by_cases h3 : s = (⟨#[111, 107]⟩ : ByteArray)
 ·subst h3;rw [show reservedL (by_ (⟨#[111, 107]⟩ : ByteArray)) = true by kernel_rfl];clear h0 h1 h2;go_enter Tryz.func84, Tryz.ntmps84;go_wp2
  go_ret
  exact ⟨rfl, rfl⟩
 by_cases h4 : s = (⟨#[102, 97, 105, 108]⟩ : ByteArray)
 ·subst h4;rw [show reservedL (by_ (⟨#[102, 97, 105, 108]⟩ : ByteArray)) = true by kernel_rfl];clear h0 h1 h2 h3;go_enter Tryz.func84, Tryz.ntmps84;go_wp2
  go_ret
  exact ⟨rfl, rfl⟩
 by_cases h5 : s = (⟨#[105, 110, 102, 111]⟩ : ByteArray)
 ·subst h5;rw [show reservedL (by_ (⟨#[105, 110, 102, 111]⟩ : ByteArray)) = true by kernel_rfl];clear h0 h1 h2 h3 h4;go_enter Tryz.func84, Tryz.ntmps84;go_wp2
  go_ret
  exact ⟨rfl, rfl⟩
 by_cases h6 : s = (⟨#[110, 105, 108]⟩ : ByteArray)
 ·subst h6;rw [show reservedL (by_ (⟨#[110, 105, 108]⟩ : ByteArray)) = true by kernel_rfl];clear h0 h1 h2 h3 h4 h5;go_enter Tryz.func84, Tryz.ntmps84;go_wp2
  go_ret
  exact ⟨rfl, rfl⟩
 have hr : reservedL (by_ s) = false := not_reserved (fun t ht => by
  simp only [resvL, List.mem_cons, List.not_mem_nil, or_false] at ht;rintro rfl;rcases ht with h | h | h | h | h | h | h
  ·exact h0 h
  ·exact h1 h
  ·exact h2 h
  ·exact h3 h
  ·exact h4 h
  ·exact h5 h
  ·exact h6 h
  )
 rw [hr];have e0 : (s.toList == ([98, 101, 103, 105, 110] : List UInt8)) = false := text_ne h0;have e1 : (s.toList == ([114, 101, 97, 100] : List UInt8)) = false := text_ne h1;have e2 : (s.toList == ([119, 114, 105, 116, 101] : List UInt8)) = false := text_ne h2;have e3 : (s.toList == ([111, 107] : List UInt8)) = false := text_ne h3;have e4 : (s.toList == ([102, 97, 105, 108] : List UInt8)) = false := text_ne h4;have e5 : (s.toList == ([105, 110, 102, 111] : List UInt8)) = false := text_ne h5;have e6 : (s.toList == ([110, 105, 108] : List UInt8)) = false := text_ne h6;clear hr h0 h1 h2 h3 h4 h5 h6;go_enter Tryz.func84, Tryz.ntmps84;go_wp2
 go_ret
 exact ⟨rfl, rfl⟩
end Go.Proofs.YthdofaoamljkfaaGreatDoor
namespace Go.Proofs.YthdofaoamljkfaaGreatDoor
open Go.RowKit
open Go.Lib hiding intOf
attribute [local go_sem ↓] Go.wp_at_zero Go.wp_at_succ
def UTabs (w : World) : Prop := Lib.Utf8Tabs (Tryz.laysValid_ren.g 3) (Tryz.laysValid_ren.g 4) w
theorem UTabs.only {w w' : World} (h : UTabs w) (ho : Only [] w w') : UTabs w' := Utf8Tabs_below h (ho.below (Nat.le_refl _) (by simp))
theorem valid_any (x : ByteArray) (w : World) (hs : x.size ≤ 9223372036854775807) (hT : UTabs w) :
  Calls Tryz.prog 87 #[.string x] w fun e w' => e = .returned (.bool (validD (by_ x))) ∧ Only [] w w' := by
 have h : Calls Tryz.prog 87 #[.string x] w _ := Any.utf8_ValidString Tryz.laysValid x w hs hT;exact h.mono fun e w' ⟨h1, h2⟩ => ⟨h1, Only.of_below h2 []⟩
theorem runes_dec (a : ByteArray) (pos : Nat) (h : pos < a.size) : runesL ((by_ a).drop pos) = (Utf8.decode a pos).1 :: runesL ((by_ a).drop (pos + (Utf8.decode a pos).2)) := by
 rw [runes_step (by intro e; have := congrArg List.length e; rw [List.length_drop, by_length] at this; simp at this; omega), decL_at, List.drop_drop]
theorem size_ne {c : ByteArray} (h : c ≠ ⟨#[]⟩) : 0 < c.size := by
 rcases Nat.eq_zero_or_pos c.size with h0 | h0
 ·exfalso
  refine h (by_inj ?_);have : (by_ c).length = 0 := by rw [by_length, h0]
  rw [List.eq_nil_of_length_eq_zero this]
  rfl
 ·exact h0
theorem is_any (s : ByteArray) (w : World) (hs : s.size ≤ 9223372036854775807) (hT : UTabs w) :
  Calls Tryz.prog 91 #[.string s] w fun e w' => e = .returned (.bool (isName s)) ∧ Only [] w w' := by
 have HV := Hd (valid_any s w hs hT);have HRS := Hd (fun w' => reserved_any s w');have HMY := Hd (fun r w' => may_any r w');have HDG := Hd (fun r w' => digit_any r w');obtain ⟨R, hR⟩ : ∃ R, R = isName s := ⟨_, rfl⟩;rw [← hR];unfold isName at hR;obtain ⟨v, hv⟩ : ∃ v, v = validD (by_ s) := ⟨_, rfl⟩;obtain ⟨x, hx⟩ : ∃ x, x = reservedL (by_ s) := ⟨_, rfl⟩;rw [← hv] at HV hR;rw [← hx] at HRS hR;have HR := Hd hR;clear hR hT hv hx;go_enter Tryz.func91, Tryz.ntmps91;go_wp2_with fail
 refine (HV.out).mono ?_;rintro e w1 ⟨rfl, hO1⟩;have HO1 := Hd hO1;clear hO1
 cases v with
 | false =>
  have HF : Hid (R = false) := Hd (by rw [HR.out]; simp);go_wp2
  go_ret
  exact ⟨by first | (rw [HF.out]; done) | (rw [HF.out]; rfl), HO1.out⟩
 | true =>
  go_wp2_with fail
  refine (HRS.out w1).mono ?_;rintro e w1' ⟨rfl, rfl⟩
  cases x with
  | true =>
   have HF : Hid (R = false) := Hd (by rw [HR.out]; simp);go_wp2
   go_ret
   exact ⟨by first | (rw [HF.out]; done) | (rw [HF.out]; rfl), HO1.out⟩
  | false =>
   have HR2 : Hid (R = nameL (runesL (by_ s))) := Hd (by rw [HR.out]; simp);clear HR HV HRS;have hO1s := HO1.out.size;go_wp2
   go_loopw [3] (fun nv wr => ∃ (pos k : Nat) (pre : List Nat), nv = .int .i64 k ∧ pos ≤ s.size ∧ k ≤ 20 ∧ Hid (pre.length = k) ∧ Hid (OkPre pre) ∧ Hid (runesL (by_ s) = pre ++ runesL ((by_ s).drop pos)) ∧ Hid (wr.heap[w1.heap.size]? = some (.stringIter s pos)) ∧ Hid (Only [] w wr)) (fun _ wr => s.size - wr.iterPos w1.heap.size)
   case atStart => exact ⟨0, 0, [], rfl, by omega, by omega, Hd rfl, Hd okPre_nil, Hd rfl, Hd (World.iter_heap w1 s 0), Hd (HO1.out.alloc _)⟩
   case round =>
    obtain ⟨pos, k, pre, rfl, hpos, hk, HK, HOK, HRU, HIT, HO⟩ := hrel
    by_cases hp : pos < s.size
    ·have hnx : ∀ ty, (Instr.next (.pointer (some ⟨w1.heap.size, 0, none⟩)) true ty).run Tryz.prog wr = _ := fun ty => run_next_any_at wr w1.heap.size s pos ty HIT.out hp;have hwd := width_le s pos hp;have hip := iterPos_of HIT.out;have HST := Hd (runes_dec s pos hp);obtain ⟨⟨r, wd⟩, hdec⟩ : ∃ d, d = Utf8.decode s pos := ⟨_, rfl⟩;rw [← hdec] at hnx hwd HST;dsimp only at hwd;have HIT2 := Hd (iterAt_heap wr w1.heap.size s pos (pos + wd) HIT.out);have hip2 := iterPos_of HIT2.out;have HO2 := Hd (only_iter HO.out s (pos + wd) (k := w1.heap.size) (fun h => by omega));have HM1 := Hd (fun w' => HMY.out r w');have HD1 := Hd (fun w' => HDG.out r w');have HN : Hid (R = nameL (pre ++ r :: runesL ((by_ s).drop (pos + wd)))) := Hd (by rw [HR2.out, HRU.out, HST.out]);obtain ⟨w3, hw3⟩ : ∃ w3, w3 = wr.iterAt w1.heap.size s (pos + wd) := ⟨_, rfl⟩;rw [← hw3] at hnx HIT2 HO2 hip2;obtain ⟨m, hm⟩ : ∃ m, m = mayR r := ⟨_, rfl⟩;obtain ⟨d, hd⟩ : ∃ d, d = digitR r := ⟨_, rfl⟩;rw [← hm] at HM1;rw [← hd] at HD1;have hwd1 := hwd.1;have hwd2 := hwd.2;have HMM := Hd hm;have HDD := Hd hd;have hwk : IntKind.i64.wrap ((k : Int) + 1) = (k : Int) + 1 := IntWalk.i64_in _ (by omega);clear hdec hw3 hwd HIT HO hm hd
     cases m with
     | false =>
      have HF : Hid (R = false) := Hd (by rw [HN.out]; exact name_bad1 _ _ _ HMM.out.symm);go_wp2_with fail
      refine (HM1.out _).mono ?_;rintro e w4 ⟨rfl, rfl⟩;go_wp2
      go_ret
      exact ⟨by first | (rw [HF.out]; done) | (rw [HF.out]; rfl), HO2.out⟩
     | true =>
      by_cases hk0 : k = 0
      ·subst hk0;have hpn : pre = [] := List.eq_nil_of_length_eq_zero HK.out;subst hpn;go_wp2_with fail
       refine (HM1.out _).mono ?_;rintro e w4 ⟨rfl, rfl⟩
       cases d with
       | true =>
        have HF : Hid (R = false) := Hd (by rw [HN.out]; exact name_bad2 _ _ HDD.out.symm);go_wp2_with fail
        refine (HD1.out _).mono ?_;rintro e w4 ⟨rfl, rfl⟩;go_wp2
        go_ret
        exact ⟨by first | (rw [HF.out]; done) | (rw [HF.out]; rfl), HO2.out⟩
       | false =>
        have HOK2 := Hd (okPre_snoc HOK.out HMM.out.symm (fun _ => HDD.out.symm));have HRU2 : Hid (runesL (by_ s) = ([] ++ [r]) ++ runesL ((by_ s).drop (pos + wd))) := Hd (by rw [HRU.out, HST.out]; simp);clear HN;go_wp2_with fail
        refine (HD1.out _).mono ?_;rintro e w4 ⟨rfl, rfl⟩;go_wp2
        go_roundw
        case rel => exact ⟨pos + wd, 1, [] ++ [r], rfl, by omega, by omega, Hd rfl, HOK2, HRU2, HIT2, HO2⟩
        case measure => rw [hip, hip2]; omega
      ·have hk1 : ((k : Int) == 0) = false := by simp; omega
       by_cases hk20 : k = 20
       ·subst hk20;have HF : Hid (R = false) := Hd (by rw [HN.out]; exact name_bad3 _ _ _ HK.out);go_wp2_with fail
        refine (HM1.out _).mono ?_;rintro e w4 ⟨rfl, rfl⟩;go_wp2
        go_ret
        exact ⟨by first | (rw [HF.out]; done) | (rw [HF.out]; rfl), HO2.out⟩
       ·have hk2 : ((k : Int) == 20) = false := by simp; omega
        have HOK2 := Hd (okPre_snoc HOK.out HMM.out.symm (fun e => by exfalso; have := HK.out; rw [e] at this; simp at this; omega));have HRU2 : Hid (runesL (by_ s) = (pre ++ [r]) ++ runesL ((by_ s).drop (pos + wd))) := Hd (by rw [HRU.out, HST.out]; simp);have HK2 : Hid ((pre ++ [r]).length = k + 1) := Hd (by rw [List.length_append, HK.out]; rfl);clear HN;go_wp2_with fail
        refine (HM1.out _).mono ?_;rintro e w4 ⟨rfl, rfl⟩;go_wp2
        go_roundw
        case rel => exact ⟨pos + wd, k + 1, pre ++ [r], by go_num, by omega, by omega, HK2, HOK2, HRU2, HIT2, HO2⟩
        case measure => rw [hip, hip2]; omega
    ·have hnx : ∀ ty, (Instr.next (.pointer (some ⟨w1.heap.size, 0, none⟩)) true ty).run Tryz.prog wr = _ := fun ty => run_next_end_at wr w1.heap.size s pos ty HIT.out hp;have hl : (by_ s).drop pos = [] := List.drop_of_length_le (by rw [by_length]; omega);have HF : Hid (R = decide (0 < k)) := Hd (by rw [HR2.out, HRU.out, hl, runes_nil, List.append_nil, okPre_name HOK.out (by rw [HK.out]; exact hk), HK.out]);clear hl;go_wp2
     go_ret
     exact ⟨by first | (rw [HF.out]; done) | (rw [HF.out]; rfl), HO.out⟩
end Go.Proofs.YthdofaoamljkfaaGreatDoor
namespace Go.Proofs
open Go.Shelf
def Tryz.laysDecode_ren : Go.Shelf.Ren := ⟨fun | 197 => 112 | 260 => 119 | n => n, fun | 9 => 9 | 21 => 21 | 3 => 3 | 4 => 4 | 5 => 5 | 105 => 158 | 119 => 143 | 0 => 0 | 46 => 147 | 139 => 146 | 138 => 145 | n => n, fun | 3 => 0 | 4 => 1 | n => n⟩
theorem Tryz.laysDecode : Go.Proofs.Lays.n197 Tryz.prog Tryz.laysDecode_ren := {
 mixed := by kernel_rfl
 f197 := Tryz.func112.trans (congrArg some (by kernel_rfl))
 f260 := Tryz.func119.trans (congrArg some (by kernel_rfl))
 t0 := Tryz.underlying0
 a0 := Tryz.isAgg0
 z0 := Tryz.sizeOf0
 v0 := Tryz.zeroValue0
 t3 := Tryz.underlying3
 a3 := Tryz.isAgg3
 z3 := Tryz.sizeOf3
 v3 := Tryz.zeroValue3
 t4 := Tryz.underlying4
 a4 := Tryz.isAgg4
 z4 := Tryz.sizeOf4
 v4 := Tryz.zeroValue4
 t5 := Tryz.underlying5
 a5 := Tryz.isAgg5
 z5 := Tryz.sizeOf5
 v5 := Tryz.zeroValue5
 t9 := Tryz.underlying9
 a9 := Tryz.isAgg9
 z9 := Tryz.sizeOf9
 v9 := Tryz.zeroValue9
 t21 := Tryz.underlying21
 a21 := Tryz.isAgg21
 z21 := Tryz.sizeOf21
 v21 := Tryz.zeroValue21
 t46 := Tryz.underlying147
 a46 := Tryz.isAgg147
 z46 := Tryz.sizeOf147
 v46 := Tryz.zeroValue147
 t105 := Tryz.underlying158
 a105 := Tryz.isAgg158
 z105 := Tryz.sizeOf158
 v105 := Tryz.zeroValue158
 t119 := Tryz.underlying143
 a119 := Tryz.isAgg143
 z119 := Tryz.sizeOf143
 t138 := Tryz.underlying145
 a138 := Tryz.isAgg145
 z138 := Tryz.sizeOf145
 v138 := Tryz.zeroValue145
 t139 := Tryz.underlying146
 a139 := Tryz.isAgg146
 z139 := Tryz.sizeOf146
 v139 := Tryz.zeroValue146
 g3 := by kernel_rfl
 g4 := by kernel_rfl }
end Go.Proofs
namespace Go.Proofs.YthdofaoamljkfaaGreatDoor
open Go.RowKit
open Go.Lib hiding intOf
attribute [local go_sem ↓] Go.wp_at_zero Go.wp_at_succ
theorem decode_any (c : ByteArray) (w : World) (hT : UTabs w) :
  Calls Tryz.prog 112 #[.string c] w fun e w' => e = .returned (.tuple #[.int .i32 ((Lib.decodeGo c).1 : Nat), .int .i64 ((Lib.decodeGo c).2 : Nat)]) ∧ Only [] w w' := by
 have h : Calls Tryz.prog 112 #[.string c] w _ := Any.utf8_DecodeRuneInString Tryz.laysDecode c w hT;exact h.mono fun e w' ⟨h1, h2⟩ => ⟨h1, Only.of_below h2 []⟩
theorem decode_none (w : World) (hT : UTabs w) :
  Calls Tryz.prog 112 #[.string ⟨#[]⟩] w fun e w' => e = .returned (.tuple #[.int .i32 65533, .int .i64 0]) ∧ Only [] w w' := decode_any ⟨#[]⟩ w hT
theorem decodeGo_some {c : ByteArray} (h : 0 < c.size) : Lib.decodeGo c = decodeL (by_ c) := by
 unfold Lib.decodeGo;rw [if_neg (by omega), ← decL_at c 0, List.drop_zero]
theorem less_any (a b : ByteArray) (w : World) (ha : a.size ≤ 9223372036854775807) (hb : b.size ≤ 9223372036854775807) (hT : UTabs w) :
  Calls Tryz.prog 96 #[.string a, .string b] w fun e w' => e = .returned (.bool (lessL (runesL (by_ a)) (runesL (by_ b)))) ∧ Only [] w w' := by
 obtain ⟨R, hR⟩ : ∃ R, R = lessL (runesL (by_ a)) (runesL (by_ b)) := ⟨_, rfl⟩;rw [← hR];have HD := Hd (fun c (w' : World) (hO : Only [] w w') => decode_any c w' (hT.only hO));have HD0 := Hd (fun (w' : World) (hO : Only [] w w') => decode_none w' (hT.only hO));have HR := Hd hR;clear hR hT;go_enter Tryz.func96, Tryz.ntmps96;go_wp2
 go_loopw [1] (fun bv wr => ∃ (pos : Nat) (c : ByteArray), bv = .string c ∧ pos ≤ a.size ∧ c.size ≤ 9223372036854775807 ∧ Hid (R = lessL (runesL ((by_ a).drop pos)) (runesL (by_ c))) ∧ Hid (wr.heap[w.heap.size]? = some (.stringIter a pos)) ∧ Hid (Only [] w wr)) (fun _ wr => a.size - wr.iterPos w.heap.size)
 case atStart => exact ⟨0, b, rfl, by omega, hb, Hd (by rw [List.drop_zero]; exact HR.out), Hd (World.iter_heap w a 0), Hd ((Only.refl [] w).alloc _)⟩
 case round =>
  obtain ⟨pos, c, rfl, hpos, hc, HL, HIT, HO⟩ := hrel
  by_cases hp : pos < a.size
  ·have hnx : ∀ ty, (Instr.next (.pointer (some ⟨w.heap.size, 0, none⟩)) true ty).run Tryz.prog wr = _ := fun ty => run_next_any_at wr w.heap.size a pos ty HIT.out hp;have hwd := width_le a pos hp;have hip := iterPos_of HIT.out;have HST := Hd (runes_dec a pos hp);obtain ⟨⟨r, wd⟩, hdec⟩ : ∃ d, d = Utf8.decode a pos := ⟨_, rfl⟩;rw [← hdec] at hnx hwd HST;dsimp only at hwd;have HIT2 := Hd (iterAt_heap wr w.heap.size a pos (pos + wd) HIT.out);have HO2 := Hd (only_iter HO.out a (pos + wd) (k := w.heap.size) (fun h => by omega));have hO2s := HO2.out.size;have HD1 := Hd (HD.out c _ HO2.out);obtain ⟨w3, hw3⟩ : ∃ w3, w3 = wr.iterAt w.heap.size a (pos + wd) := ⟨_, rfl⟩;rw [← hw3] at hnx HIT2 HO2 hO2s HD1;have hw0 : w.heap.size < w3.heap.size := (Array.getElem?_eq_some_iff.1 HIT2.out).1;have hwd1 := hwd.1;have hwd2 := hwd.2;clear hdec hw3 hwd HIT HO
   by_cases hce : c = ⟨#[]⟩
   ·subst hce;have HD1 := Hd (HD0.out _ HO2.out);have HF : Hid (R = false) := Hd (by rw [HL.out, HST.out]; rfl);clear HST HL hc;go_wp2_with fail
    refine (HD1.out).mono ?_;rintro e w4 ⟨rfl, hO4⟩;have HO4 := Hd (HO2.out.trans hO4);clear hO4;go_wp2
    go_ret
    exact ⟨by first | (rw [HF.out]; done) | (rw [HF.out]; rfl), HO4.out⟩
   ·have hcs := size_ne hce;have hne : by_ c ≠ [] := fun e => by
     have h0 : c.size = 0 := by rw [← by_length, e]; rfl
     omega
    have HST2 := Hd (runes_step hne);have hk1 := dec_pos hne;have hk2 : (decodeL (by_ c)).2 ≤ c.size := by rw [← by_length]; exact decodeL_le _ hne
    rw [decodeGo_some hcs] at HD1;obtain ⟨⟨q, n⟩, hqn⟩ : ∃ d, d = decodeL (by_ c) := ⟨_, rfl⟩;rw [← hqn] at HD1 HST2 hk1 hk2;dsimp only at HD1 hk1 hk2;have hn0 : ((n : Int) == 0) = false := by simp; omega
    clear hqn hne hce
    by_cases hrq : r = q
    ·subst hrq;have hrr : ((r : Int) != (r : Int)) = false := by simp
     have hn1 : (0 : Int) ≤ (n : Int) := Int.natCast_nonneg _;have hn2 : (n : Int) ≤ (c.size : Int) := by omega
     have HL2 : Hid (R = lessL (runesL ((by_ a).drop (pos + wd))) (runesL (by_ (c.extract n c.size)))) := Hd (by
      rw [HL.out, HST.out, HST2.out, less_same, by_extract, ← by_length c, List.take_length])
     have hcs2 : (c.extract n c.size).size ≤ 9223372036854775807 := by
      rw [ByteArray.size_extract];omega
     have HCS2 := Hd hcs2;clear HL HST HST2 hcs2;go_wp2_with fail
     refine (HD1.out).mono ?_;rintro e w4 ⟨rfl, hO4⟩;have HO4 := Hd (HO2.out.trans hO4);have HIT4 := Hd ((hO4.keeps w.heap.size hw0 (by simp)).trans HIT2.out);have hip2 := iterPos_of HIT4.out;clear hO4;go_wp2
     go_roundw
     case rel => exact ⟨pos + wd, _, rfl, by omega, HCS2.out, HL2, HIT4, HO4⟩
     case measure => rw [hip, hip2]; omega
    ·have hrr : ((r : Int) != (q : Int)) = true := by simp; omega
     have hn1 : (0 : Int) < (n : Int) := by omega
     have HF : Hid (R = decide (r < q)) := Hd (by rw [HL.out, HST.out, HST2.out, less_unlike _ _ hrq]);clear HL HST HST2;go_wp2_with fail
     refine (HD1.out).mono ?_;rintro e w4 ⟨rfl, hO4⟩;have HO4 := Hd (HO2.out.trans hO4);clear hO4;go_wp2
     go_ret
     exact ⟨by first | (rw [HF.out]; done) | (rw [HF.out]; rfl), HO4.out⟩
  ·have hnx : ∀ ty, (Instr.next (.pointer (some ⟨w.heap.size, 0, none⟩)) true ty).run Tryz.prog wr = _ := fun ty => run_next_end_at wr w.heap.size a pos ty HIT.out hp;have hl : (by_ a).drop pos = [] := List.drop_of_length_le (by rw [by_length]; omega)
   by_cases hce : c = ⟨#[]⟩
   ·subst hce;have HF : Hid (R = false) := Hd (by rw [HL.out, hl]; rfl);clear HL hl hc;go_wp2
    go_ret
    exact ⟨by first | (rw [HF.out]; done) | (rw [HF.out]; rfl), HO.out⟩
   ·have hcs := size_ne hce;have hne : by_ c ≠ [] := fun e => by
     have h0 : c.size = 0 := by rw [← by_length, e]; rfl
     omega
    have HF : Hid (R = true) := Hd (by rw [HL.out, hl, runes_step hne]; rfl);have hcn : c.toList.isEmpty = false := by
     rw [Lib.toList_data]
     cases hb : c.data.toList with
     | nil => exact absurd hb hne
     | cons x t => rfl
    clear HL hl hc hne hcs hce;go_wp2
    go_ret
    exact ⟨by first | (rw [HF.out]; done) | (rw [HF.out]; rfl), HO.out⟩
end Go.Proofs.YthdofaoamljkfaaGreatDoor
