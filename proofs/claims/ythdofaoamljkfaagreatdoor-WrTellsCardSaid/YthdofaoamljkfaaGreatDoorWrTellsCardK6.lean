/- Parts. -/
import Derived.Test.YthdofaoamljkfaaGreatDoorWrTellsCardK5
import Derived.OwnWalk
set_option maxRecDepth 10000
set_option maxHeartbeats 16000000
set_option linter.unusedVariables false
set_option linter.unusedSimpArgs false
namespace Go.Proofs.YthdofaoamljkfaaGreatDoor
open Go.RowKit
open Go.Lib
attribute [local go_sem ↓] Go.wp_at_zero Go.wp_at_succ
theorem digit_any (r : Nat) (w : World) :
  Calls Tryz.prog 105 #[.int .i32 (r : Int)] w fun e w' => e = .returned (.bool (digitR r)) ∧ w = w' := by
 by_cases h1 : 48 ≤ r
 ·have f1 : (48 : Int) ≤ (r : Int) := by omega
  by_cases h2 : r ≤ 57
  ·have f2 : (r : Int) ≤ 57 := by omega
   have hr : digitR r = true := by simp [digitR, h1, h2]
   rw [hr];clear h1 h2 hr;go_enter Tryz.func105, Tryz.ntmps105;go_wp2
   go_ret
   exact ⟨rfl, rfl⟩
  ·have f2 : decide ((r : Int) ≤ 57) = false := decide_eq_false (by omega);have hr : digitR r = false := by simp [digitR, h2]
   rw [hr];clear h1 h2 hr;go_enter Tryz.func105, Tryz.ntmps105;go_wp2
   go_ret
   exact ⟨rfl, rfl⟩
 ·have f1 : decide ((48 : Int) ≤ (r : Int)) = false := decide_eq_false (by omega);have hr : digitR r = false := by simp [digitR, h1]
  rw [hr];clear h1 hr;go_enter Tryz.func105, Tryz.ntmps105;go_wp2
  go_ret
  exact ⟨rfl, rfl⟩
theorem may_0 (r : Nat) (w : World) (h : r < 48) :
  Calls Tryz.prog 104 #[.int .i32 (r : Int)] w fun e w' => e = .returned (.bool false) ∧ w = w' := by
 have hd : digitR r = false := by
  unfold digitR;rw [show decide (48 ≤ r) = false from decide_eq_false (by omega)]; rfl
 have HD := Hd (digit_any r w);rw [hd] at HD;have g97 : decide ((97 : Int) ≤ (r : Int)) = false := decide_eq_false (by omega);have g65 : decide ((65 : Int) ≤ (r : Int)) = false := decide_eq_false (by omega);have e95 : ((r : Int) == 95) = false := by simp; omega
 have t127 : decide ((127 : Int) < (r : Int)) = false := decide_eq_false (by omega);clear h hd;go_enter Tryz.func104, Tryz.ntmps104;go_wp2_with fail
 refine (HD.out).mono ?_;rintro e w1 ⟨rfl, rfl⟩;go_wp2
 go_ret
 exact ⟨rfl, rfl⟩
theorem may_1 (r : Nat) (w : World) (h : 48 ≤ r ∧ r ≤ 57) :
  Calls Tryz.prog 104 #[.int .i32 (r : Int)] w fun e w' => e = .returned (.bool true) ∧ w = w' := by
 have hd : digitR r = true := by
  unfold digitR;rw [decide_eq_true (by omega), decide_eq_true (by omega)]; rfl
 have HD := Hd (digit_any r w);rw [hd] at HD;have g97 : decide ((97 : Int) ≤ (r : Int)) = false := decide_eq_false (by omega);have g65 : decide ((65 : Int) ≤ (r : Int)) = false := decide_eq_false (by omega);clear h hd;go_enter Tryz.func104, Tryz.ntmps104;go_wp2_with fail
 refine (HD.out).mono ?_;rintro e w1 ⟨rfl, rfl⟩;go_wp2
 go_ret
 exact ⟨rfl, rfl⟩
theorem may_2 (r : Nat) (w : World) (h : 58 ≤ r ∧ r ≤ 64) :
  Calls Tryz.prog 104 #[.int .i32 (r : Int)] w fun e w' => e = .returned (.bool false) ∧ w = w' := by
 have hd : digitR r = false := by
  unfold digitR;rw [show decide (r ≤ 57) = false from decide_eq_false (by omega)]; exact Bool.and_false _
 have HD := Hd (digit_any r w);rw [hd] at HD;have g97 : decide ((97 : Int) ≤ (r : Int)) = false := decide_eq_false (by omega);have g65 : decide ((65 : Int) ≤ (r : Int)) = false := decide_eq_false (by omega);have e95 : ((r : Int) == 95) = false := by simp; omega
 have t127 : decide ((127 : Int) < (r : Int)) = false := decide_eq_false (by omega);clear h hd;go_enter Tryz.func104, Tryz.ntmps104;go_wp2_with fail
 refine (HD.out).mono ?_;rintro e w1 ⟨rfl, rfl⟩;go_wp2
 go_ret
 exact ⟨rfl, rfl⟩
theorem may_3 (r : Nat) (w : World) (h : 65 ≤ r ∧ r ≤ 90) :
  Calls Tryz.prog 104 #[.int .i32 (r : Int)] w fun e w' => e = .returned (.bool true) ∧ w = w' := by
 have hd : digitR r = false := by
  unfold digitR;rw [show decide (r ≤ 57) = false from decide_eq_false (by omega)]; exact Bool.and_false _
 have HD := Hd (digit_any r w);rw [hd] at HD;have g97 : decide ((97 : Int) ≤ (r : Int)) = false := decide_eq_false (by omega);have g65 : (65 : Int) ≤ (r : Int) := by omega
 have l90 : (r : Int) ≤ 90 := by omega
 clear h hd;go_enter Tryz.func104, Tryz.ntmps104;go_wp2
 go_ret
 exact ⟨rfl, rfl⟩
theorem may_4 (r : Nat) (w : World) (h : 91 ≤ r ∧ r ≤ 94) :
  Calls Tryz.prog 104 #[.int .i32 (r : Int)] w fun e w' => e = .returned (.bool false) ∧ w = w' := by
 have hd : digitR r = false := by
  unfold digitR;rw [show decide (r ≤ 57) = false from decide_eq_false (by omega)]; exact Bool.and_false _
 have HD := Hd (digit_any r w);rw [hd] at HD;have g97 : decide ((97 : Int) ≤ (r : Int)) = false := decide_eq_false (by omega);have g65 : (65 : Int) ≤ (r : Int) := by omega
 have l90 : decide ((r : Int) ≤ 90) = false := decide_eq_false (by omega);have e95 : ((r : Int) == 95) = false := by simp; omega
 have t127 : decide ((127 : Int) < (r : Int)) = false := decide_eq_false (by omega);clear h hd;go_enter Tryz.func104, Tryz.ntmps104;go_wp2_with fail
 refine (HD.out).mono ?_;rintro e w1 ⟨rfl, rfl⟩;go_wp2
 go_ret
 exact ⟨rfl, rfl⟩
theorem may_5 (r : Nat) (w : World) (h : r = 95) :
  Calls Tryz.prog 104 #[.int .i32 (r : Int)] w fun e w' => e = .returned (.bool true) ∧ w = w' := by
 have hd : digitR r = false := by
  unfold digitR;rw [show decide (r ≤ 57) = false from decide_eq_false (by omega)]; exact Bool.and_false _
 have HD := Hd (digit_any r w);rw [hd] at HD;have g97 : decide ((97 : Int) ≤ (r : Int)) = false := decide_eq_false (by omega);have g65 : (65 : Int) ≤ (r : Int) := by omega
 have l90 : decide ((r : Int) ≤ 90) = false := decide_eq_false (by omega);have e95 : ((r : Int) == 95) = true := by simp; omega
 clear h hd;go_enter Tryz.func104, Tryz.ntmps104;go_wp2_with fail
 refine (HD.out).mono ?_;rintro e w1 ⟨rfl, rfl⟩;go_wp2
 go_ret
 exact ⟨rfl, rfl⟩
theorem may_6 (r : Nat) (w : World) (h : r = 96) :
  Calls Tryz.prog 104 #[.int .i32 (r : Int)] w fun e w' => e = .returned (.bool false) ∧ w = w' := by
 have hd : digitR r = false := by
  unfold digitR;rw [show decide (r ≤ 57) = false from decide_eq_false (by omega)]; exact Bool.and_false _
 have HD := Hd (digit_any r w);rw [hd] at HD;have g97 : decide ((97 : Int) ≤ (r : Int)) = false := decide_eq_false (by omega);have g65 : (65 : Int) ≤ (r : Int) := by omega
 have l90 : decide ((r : Int) ≤ 90) = false := decide_eq_false (by omega);have e95 : ((r : Int) == 95) = false := by simp; omega
 have t127 : decide ((127 : Int) < (r : Int)) = false := decide_eq_false (by omega);clear h hd;go_enter Tryz.func104, Tryz.ntmps104;go_wp2_with fail
 refine (HD.out).mono ?_;rintro e w1 ⟨rfl, rfl⟩;go_wp2
 go_ret
 exact ⟨rfl, rfl⟩
theorem may_7 (r : Nat) (w : World) (h : 97 ≤ r ∧ r ≤ 122) :
  Calls Tryz.prog 104 #[.int .i32 (r : Int)] w fun e w' => e = .returned (.bool true) ∧ w = w' := by
 have hd : digitR r = false := by
  unfold digitR;rw [show decide (r ≤ 57) = false from decide_eq_false (by omega)]; exact Bool.and_false _
 have HD := Hd (digit_any r w);rw [hd] at HD;have g97 : (97 : Int) ≤ (r : Int) := by omega
 have l122 : (r : Int) ≤ 122 := by omega
 clear h hd;go_enter Tryz.func104, Tryz.ntmps104;go_wp2
 go_ret
 exact ⟨rfl, rfl⟩
theorem may_8 (r : Nat) (w : World) (h : 123 ≤ r ∧ r ≤ 127) :
  Calls Tryz.prog 104 #[.int .i32 (r : Int)] w fun e w' => e = .returned (.bool false) ∧ w = w' := by
 have hd : digitR r = false := by
  unfold digitR;rw [show decide (r ≤ 57) = false from decide_eq_false (by omega)]; exact Bool.and_false _
 have HD := Hd (digit_any r w);rw [hd] at HD;have g97 : (97 : Int) ≤ (r : Int) := by omega
 have l122 : decide ((r : Int) ≤ 122) = false := decide_eq_false (by omega);have g65 : (65 : Int) ≤ (r : Int) := by omega
 have l90 : decide ((r : Int) ≤ 90) = false := decide_eq_false (by omega);have e95 : ((r : Int) == 95) = false := by simp; omega
 have t127 : decide ((127 : Int) < (r : Int)) = false := decide_eq_false (by omega);clear h hd;go_enter Tryz.func104, Tryz.ntmps104;go_wp2_with fail
 refine (HD.out).mono ?_;rintro e w1 ⟨rfl, rfl⟩;go_wp2
 go_ret
 exact ⟨rfl, rfl⟩
theorem may_9 (r : Nat) (w : World) (h : 128 ≤ r) :
  Calls Tryz.prog 104 #[.int .i32 (r : Int)] w fun e w' => e = .returned (.bool true) ∧ w = w' := by
 have hd : digitR r = false := by
  unfold digitR;rw [show decide (r ≤ 57) = false from decide_eq_false (by omega)]; exact Bool.and_false _
 have HD := Hd (digit_any r w);rw [hd] at HD;have g97 : (97 : Int) ≤ (r : Int) := by omega
 have l122 : decide ((r : Int) ≤ 122) = false := decide_eq_false (by omega);have g65 : (65 : Int) ≤ (r : Int) := by omega
 have l90 : decide ((r : Int) ≤ 90) = false := decide_eq_false (by omega);have e95 : ((r : Int) == 95) = false := by simp; omega
 have t127 : (127 : Int) < (r : Int) := by omega
 clear h hd;go_enter Tryz.func104, Tryz.ntmps104;go_wp2_with fail
 refine (HD.out).mono ?_;rintro e w1 ⟨rfl, rfl⟩;go_wp2
 go_ret
 exact ⟨rfl, rfl⟩
theorem may_any (r : Nat) (w : World) :
  Calls Tryz.prog 104 #[.int .i32 (r : Int)] w fun e w' => e = .returned (.bool (mayR r)) ∧ w = w' := by
 by_cases h0 : r < 48
 ·have hv : mayR r = false := by simp [mayR, digitR]; omega
  rw [hv];exact may_0 r w (by omega)
 by_cases h1 : r ≤ 57
 ·have hv : mayR r = true := by simp [mayR, digitR]; omega
  rw [hv];exact may_1 r w (by omega)
 by_cases h2 : r ≤ 64
 ·have hv : mayR r = false := by simp [mayR, digitR]; omega
  rw [hv];exact may_2 r w (by omega)
 by_cases h3 : r ≤ 90
 ·have hv : mayR r = true := by simp [mayR, digitR]; omega
  rw [hv];exact may_3 r w (by omega)
 by_cases h4 : r ≤ 94
 ·have hv : mayR r = false := by simp [mayR, digitR]; omega
  rw [hv];exact may_4 r w (by omega)
 by_cases h5 : r = 95
 ·have hv : mayR r = true := by simp [mayR, digitR]; omega
  rw [hv];exact may_5 r w (by omega)
 by_cases h6 : r = 96
 ·have hv : mayR r = false := by simp [mayR, digitR]; omega
  rw [hv];exact may_6 r w (by omega)
 by_cases h7 : r ≤ 122
 ·have hv : mayR r = true := by simp [mayR, digitR]; omega
  rw [hv];exact may_7 r w (by omega)
 by_cases h8 : r ≤ 127
 ·have hv : mayR r = false := by simp [mayR, digitR]; omega
  rw [hv];exact may_8 r w (by omega)
 have hv : mayR r = true := by simp [mayR, digitR]; omega
 rw [hv];exact may_9 r w (by omega)
theorem not_reserved {s : ByteArray} (h : ∀ t ∈ resvL, s ≠ t) : reservedL (by_ s) = false := by
 unfold reservedL
 cases hc : (resvL.map by_).contains (by_ s) with
 | false => rfl
 | true =>
  obtain ⟨t, ht, he⟩ := List.mem_map.1 (List.contains_iff_mem.1 hc);exact absurd (by_inj he.symm) (h t ht)
theorem text_ne {s : ByteArray} {l : List UInt8} (h : s ≠ ⟨l.toArray⟩) : (s.toList == l) = false := by
 rw [beq_eq_false_iff_ne];intro e;rw [Lib.toList_data] at e;exact h (by_inj (e.trans List.toList_toArray.symm))
theorem reserved_any (s : ByteArray) (w : World) :
  Calls Tryz.prog 103 #[.string s] w fun e w' => e = .returned (.bool (reservedL (by_ s))) ∧ w = w' := by
 by_cases h0 : s = (⟨#[98, 101, 103, 105, 110]⟩ : ByteArray)
 ·subst h0;rw [show reservedL (by_ (⟨#[98, 101, 103, 105, 110]⟩ : ByteArray)) = true by kernel_rfl];go_enter Tryz.func103, Tryz.ntmps103;go_wp2
  go_ret
  exact ⟨rfl, rfl⟩
 by_cases h1 : s = (⟨#[114, 101, 97, 100]⟩ : ByteArray)
 ·subst h1;rw [show reservedL (by_ (⟨#[114, 101, 97, 100]⟩ : ByteArray)) = true by kernel_rfl];clear h0;go_enter Tryz.func103, Tryz.ntmps103;go_wp2
  go_ret
  exact ⟨rfl, rfl⟩
 by_cases h2 : s = (⟨#[119, 114, 105, 116, 101]⟩ : ByteArray)
 ·subst h2;rw [show reservedL (by_ (⟨#[119, 114, 105, 116, 101]⟩ : ByteArray)) = true by kernel_rfl];clear h0 h1;go_enter Tryz.func103, Tryz.ntmps103;go_wp2
  go_ret
  exact ⟨rfl, rfl⟩
 by_cases h3 : s = (⟨#[111, 107]⟩ : ByteArray)
 ·subst h3;rw [show reservedL (by_ (⟨#[111, 107]⟩ : ByteArray)) = true by kernel_rfl];clear h0 h1 h2;go_enter Tryz.func103, Tryz.ntmps103;go_wp2
  go_ret
  exact ⟨rfl, rfl⟩
 by_cases h4 : s = (⟨#[102, 97, 105, 108]⟩ : ByteArray)
 ·subst h4;rw [show reservedL (by_ (⟨#[102, 97, 105, 108]⟩ : ByteArray)) = true by kernel_rfl];clear h0 h1 h2 h3;go_enter Tryz.func103, Tryz.ntmps103;go_wp2
  go_ret
  exact ⟨rfl, rfl⟩
 by_cases h5 : s = (⟨#[105, 110, 102, 111]⟩ : ByteArray)
 ·subst h5;rw [show reservedL (by_ (⟨#[105, 110, 102, 111]⟩ : ByteArray)) = true by kernel_rfl];clear h0 h1 h2 h3 h4;go_enter Tryz.func103, Tryz.ntmps103;go_wp2
  go_ret
  exact ⟨rfl, rfl⟩
 by_cases h6 : s = (⟨#[110, 105, 108]⟩ : ByteArray)
 ·subst h6;rw [show reservedL (by_ (⟨#[110, 105, 108]⟩ : ByteArray)) = true by kernel_rfl];clear h0 h1 h2 h3 h4 h5;go_enter Tryz.func103, Tryz.ntmps103;go_wp2
  go_ret
  exact ⟨rfl, rfl⟩
 have hr : reservedL (by_ s) = false := not_reserved (fun t ht => by
  simp only [resvL, List.mem_cons, List.not_mem_nil, or_false] at ht;rintro rfl;rcases ht with h | h | h | h | h | h | h
  ·exact h0 h
  ·exact h1 h
  ·exact h2 h
  ·exact h3 h
  ·exact h4 h
  ·exact h5 h
  ·exact h6 h
  )
 rw [hr];have e0 : (s.toList == ([98, 101, 103, 105, 110] : List UInt8)) = false := text_ne h0;have e1 : (s.toList == ([114, 101, 97, 100] : List UInt8)) = false := text_ne h1;have e2 : (s.toList == ([119, 114, 105, 116, 101] : List UInt8)) = false := text_ne h2;have e3 : (s.toList == ([111, 107] : List UInt8)) = false := text_ne h3;have e4 : (s.toList == ([102, 97, 105, 108] : List UInt8)) = false := text_ne h4;have e5 : (s.toList == ([105, 110, 102, 111] : List UInt8)) = false := text_ne h5;have e6 : (s.toList == ([110, 105, 108] : List UInt8)) = false := text_ne h6;clear hr h0 h1 h2 h3 h4 h5 h6;go_enter Tryz.func103, Tryz.ntmps103;go_wp2
 go_ret
 exact ⟨rfl, rfl⟩
theorem rreserved_any (s : ByteArray) (w : World) :
  Calls Tryz.prog 84 #[.string s] w fun e w' => e = .returned (.bool (reservedL (by_ s))) ∧ w = w' := by
 by_cases h0 : s = (⟨#[98, 101, 103, 105, 110]⟩ : ByteArray)
 ·subst h0;rw [show reservedL (by_ (⟨#[98, 101, 103, 105, 110]⟩ : ByteArray)) = true by kernel_rfl];go_enter Tryz.func84, Tryz.ntmps84;go_wp2
  go_ret
  exact ⟨rfl, rfl⟩
 by_cases h1 : s = (⟨#[114, 101, 97, 100]⟩ : ByteArray)
 ·subst h1;rw [show reservedL (by_ (⟨#[114, 101, 97, 100]⟩ : ByteArray)) = true by kernel_rfl];clear h0;go_enter Tryz.func84, Tryz.ntmps84;go_wp2
  go_ret
  exact ⟨rfl, rfl⟩
 by_cases h2 : s = (⟨#[119, 114, 105, 116, 101]⟩ : ByteArray)
 ·subst h2;rw [show reservedL (by_ (⟨#[119, 114, 105, 116, 101]⟩ : ByteArray)) = true by kernel_rfl];clear h0 h1;go_enter Tryz.func84, Tryz.ntmps84;go_wp2
  go_ret
  exact ⟨rfl, rfl⟩
 by_cases h3 : s = (⟨#[111, 107]⟩ : ByteArray)
 ·subst h3;rw [show reservedL (by_ (⟨#[111, 107]⟩ : ByteArray)) = true by kernel_rfl];clear h0 h1 h2;go_enter Tryz.func84, Tryz.ntmps84;go_wp2
  go_ret
  exact ⟨rfl, rfl⟩
 by_cases h4 : s = (⟨#[102, 97, 105, 108]⟩ : ByteArray)
 ·subst h4;rw [show reservedL (by_ (⟨#[102, 97, 105, 108]⟩ : ByteArray)) = true by kernel_rfl];clear h0 h1 h2 h3;go_enter Tryz.func84, Tryz.ntmps84;go_wp2
  go_ret
  exact ⟨rfl, rfl⟩
 by_cases h5 : s = (⟨#[105, 110, 102, 111]⟩ : ByteArray)
 ·subst h5;rw [show reservedL (by_ (⟨#[105, 110, 102, 111]⟩ : ByteArray)) = true by kernel_rfl];clear h0 h1 h2 h3 h4;go_enter Tryz.func84, Tryz.ntmps84;go_wp2
  go_ret
  exact ⟨rfl, rfl⟩
 by_cases h6 : s = (⟨#[110, 105, 108]⟩ : ByteArray)
 ·subst h6;rw [show reservedL (by_ (⟨#[110, 105, 108]⟩ : ByteArray)) = true by kernel_rfl];clear h0 h1 h2 h3 h4 h5;go_enter Tryz.func84, Tryz.ntmps84;go_wp2
  go_ret
  exact ⟨rfl, rfl⟩
 have hr : reservedL (by_ s) = false := not_reserved (fun t ht => by
  simp only [resvL, List.mem_cons, List.not_mem_nil, or_false] at ht;rintro rfl;rcases ht with h | h | h | h | h | h | h
  ·exact h0 h
  ·exact h1 h
  ·exact h2 h
  ·exact h3 h
  ·exact h4 h
  ·exact h5 h
  ·exact h6 h
  )
 rw [hr];have e0 : (s.toList == ([98, 101, 103, 105, 110] : List UInt8)) = false := text_ne h0;have e1 : (s.toList == ([114, 101, 97, 100] : List UInt8)) = false := text_ne h1;have e2 : (s.toList == ([119, 114, 105, 116, 101] : List UInt8)) = false := text_ne h2;have e3 : (s.toList == ([111, 107] : List UInt8)) = false := text_ne h3;have e4 : (s.toList == ([102, 97, 105, 108] : List UInt8)) = false := text_ne h4;have e5 : (s.toList == ([105, 110, 102, 111] : List UInt8)) = false := text_ne h5;have e6 : (s.toList == ([110, 105, 108] : List UInt8)) = false := text_ne h6;clear hr h0 h1 h2 h3 h4 h5 h6;go_enter Tryz.func84, Tryz.ntmps84;go_wp2
 go_ret
 exact ⟨rfl, rfl⟩
end Go.Proofs.YthdofaoamljkfaaGreatDoor
