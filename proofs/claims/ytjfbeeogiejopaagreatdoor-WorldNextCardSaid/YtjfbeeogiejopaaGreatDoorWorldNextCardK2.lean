/- Parts. -/
import Derived.Test.YtjfbeeogiejopaaGreatDoorWorldNextCardK1
import Derived.OwnWalk
import Derived.Test.YtjfbeeogiejopaaGreatDoorProg
import Derived.Ground.NamesProg
import Derived.Shelf.Unicode.ValidAny
import Derived.Lib.OthersKept
import Derived.Laws.RangeString
import Derived.Laws.RangeAny
import Derived.Laws.Strings2
import Derived.WalkSmall
import Derived.Lib.ItoaNum
import Derived.Lib.Strings
set_option maxRecDepth 10000
set_option maxHeartbeats 16000000
set_option linter.unusedVariables false
set_option linter.unusedSimpArgs false
namespace Go.Proofs.YtjfbeeogiejopaaGreatDoor
open Go.RowKit
open Go.Lib
attribute [local go_sem ↓] Go.wp_at_zero Go.wp_at_succ
theorem digit_any (r : Nat) (w : World) :
  Calls Tryz.prog 146 #[.int .i32 (r : Int)] w fun e w' => e = .returned (.bool (digitR r)) ∧ w = w' := by
 by_cases h1 : 48 ≤ r
 ·have f1 : (48 : Int) ≤ (r : Int) := by omega
  by_cases h2 : r ≤ 57
  ·have f2 : (r : Int) ≤ 57 := by omega
   have hr : digitR r = true := by simp [digitR, h1, h2]
   rw [hr];clear h1 h2 hr;go_enter Tryz.func146, Tryz.ntmps146;go_wp2
   go_ret
   exact ⟨rfl, rfl⟩
  ·have f2 : decide ((r : Int) ≤ 57) = false := decide_eq_false (by omega);have hr : digitR r = false := by simp [digitR, h2]
   rw [hr];clear h1 h2 hr;go_enter Tryz.func146, Tryz.ntmps146;go_wp2
   go_ret
   exact ⟨rfl, rfl⟩
 ·have f1 : decide ((48 : Int) ≤ (r : Int)) = false := decide_eq_false (by omega);have hr : digitR r = false := by simp [digitR, h1]
  rw [hr];clear h1 hr;go_enter Tryz.func146, Tryz.ntmps146;go_wp2
  go_ret
  exact ⟨rfl, rfl⟩
theorem may_0 (r : Nat) (w : World) (h : r < 48) :
  Calls Tryz.prog 145 #[.int .i32 (r : Int)] w fun e w' => e = .returned (.bool false) ∧ w = w' := by
 have hd : digitR r = false := by
  unfold digitR;rw [show decide (48 ≤ r) = false from decide_eq_false (by omega)]; rfl
 have HD := Hd (digit_any r w);rw [hd] at HD;have g97 : decide ((97 : Int) ≤ (r : Int)) = false := decide_eq_false (by omega);have g65 : decide ((65 : Int) ≤ (r : Int)) = false := decide_eq_false (by omega);have e95 : ((r : Int) == 95) = false := by simp; omega
 have t127 : decide ((127 : Int) < (r : Int)) = false := decide_eq_false (by omega);clear h hd;go_enter Tryz.func145, Tryz.ntmps145;go_wp2_with fail
 refine (HD.out).mono ?_;rintro e w1 ⟨rfl, rfl⟩;go_wp2
 go_ret
 exact ⟨rfl, rfl⟩
theorem may_1 (r : Nat) (w : World) (h : 48 ≤ r ∧ r ≤ 57) :
  Calls Tryz.prog 145 #[.int .i32 (r : Int)] w fun e w' => e = .returned (.bool true) ∧ w = w' := by
 have hd : digitR r = true := by
  unfold digitR;rw [decide_eq_true (by omega), decide_eq_true (by omega)]; rfl
 have HD := Hd (digit_any r w);rw [hd] at HD;have g97 : decide ((97 : Int) ≤ (r : Int)) = false := decide_eq_false (by omega);have g65 : decide ((65 : Int) ≤ (r : Int)) = false := decide_eq_false (by omega);clear h hd;go_enter Tryz.func145, Tryz.ntmps145;go_wp2_with fail
 refine (HD.out).mono ?_;rintro e w1 ⟨rfl, rfl⟩;go_wp2
 go_ret
 exact ⟨rfl, rfl⟩
theorem may_2 (r : Nat) (w : World) (h : 58 ≤ r ∧ r ≤ 64) :
  Calls Tryz.prog 145 #[.int .i32 (r : Int)] w fun e w' => e = .returned (.bool false) ∧ w = w' := by
 have hd : digitR r = false := by
  unfold digitR;rw [show decide (r ≤ 57) = false from decide_eq_false (by omega)]; exact Bool.and_false _
 have HD := Hd (digit_any r w);rw [hd] at HD;have g97 : decide ((97 : Int) ≤ (r : Int)) = false := decide_eq_false (by omega);have g65 : decide ((65 : Int) ≤ (r : Int)) = false := decide_eq_false (by omega);have e95 : ((r : Int) == 95) = false := by simp; omega
 have t127 : decide ((127 : Int) < (r : Int)) = false := decide_eq_false (by omega);clear h hd;go_enter Tryz.func145, Tryz.ntmps145;go_wp2_with fail
 refine (HD.out).mono ?_;rintro e w1 ⟨rfl, rfl⟩;go_wp2
 go_ret
 exact ⟨rfl, rfl⟩
theorem may_3 (r : Nat) (w : World) (h : 65 ≤ r ∧ r ≤ 90) :
  Calls Tryz.prog 145 #[.int .i32 (r : Int)] w fun e w' => e = .returned (.bool true) ∧ w = w' := by
 have hd : digitR r = false := by
  unfold digitR;rw [show decide (r ≤ 57) = false from decide_eq_false (by omega)]; exact Bool.and_false _
 have HD := Hd (digit_any r w);rw [hd] at HD;have g97 : decide ((97 : Int) ≤ (r : Int)) = false := decide_eq_false (by omega);have g65 : (65 : Int) ≤ (r : Int) := by omega
 have l90 : (r : Int) ≤ 90 := by omega
 clear h hd;go_enter Tryz.func145, Tryz.ntmps145;go_wp2
 go_ret
 exact ⟨rfl, rfl⟩
theorem may_4 (r : Nat) (w : World) (h : 91 ≤ r ∧ r ≤ 94) :
  Calls Tryz.prog 145 #[.int .i32 (r : Int)] w fun e w' => e = .returned (.bool false) ∧ w = w' := by
 have hd : digitR r = false := by
  unfold digitR;rw [show decide (r ≤ 57) = false from decide_eq_false (by omega)]; exact Bool.and_false _
 have HD := Hd (digit_any r w);rw [hd] at HD;have g97 : decide ((97 : Int) ≤ (r : Int)) = false := decide_eq_false (by omega);have g65 : (65 : Int) ≤ (r : Int) := by omega
 have l90 : decide ((r : Int) ≤ 90) = false := decide_eq_false (by omega);have e95 : ((r : Int) == 95) = false := by simp; omega
 have t127 : decide ((127 : Int) < (r : Int)) = false := decide_eq_false (by omega);clear h hd;go_enter Tryz.func145, Tryz.ntmps145;go_wp2_with fail
 refine (HD.out).mono ?_;rintro e w1 ⟨rfl, rfl⟩;go_wp2
 go_ret
 exact ⟨rfl, rfl⟩
theorem may_5 (r : Nat) (w : World) (h : r = 95) :
  Calls Tryz.prog 145 #[.int .i32 (r : Int)] w fun e w' => e = .returned (.bool true) ∧ w = w' := by
 have hd : digitR r = false := by
  unfold digitR;rw [show decide (r ≤ 57) = false from decide_eq_false (by omega)]; exact Bool.and_false _
 have HD := Hd (digit_any r w);rw [hd] at HD;have g97 : decide ((97 : Int) ≤ (r : Int)) = false := decide_eq_false (by omega);have g65 : (65 : Int) ≤ (r : Int) := by omega
 have l90 : decide ((r : Int) ≤ 90) = false := decide_eq_false (by omega);have e95 : ((r : Int) == 95) = true := by simp; omega
 clear h hd;go_enter Tryz.func145, Tryz.ntmps145;go_wp2_with fail
 refine (HD.out).mono ?_;rintro e w1 ⟨rfl, rfl⟩;go_wp2
 go_ret
 exact ⟨rfl, rfl⟩
theorem may_6 (r : Nat) (w : World) (h : r = 96) :
  Calls Tryz.prog 145 #[.int .i32 (r : Int)] w fun e w' => e = .returned (.bool false) ∧ w = w' := by
 have hd : digitR r = false := by
  unfold digitR;rw [show decide (r ≤ 57) = false from decide_eq_false (by omega)]; exact Bool.and_false _
 have HD := Hd (digit_any r w);rw [hd] at HD;have g97 : decide ((97 : Int) ≤ (r : Int)) = false := decide_eq_false (by omega);have g65 : (65 : Int) ≤ (r : Int) := by omega
 have l90 : decide ((r : Int) ≤ 90) = false := decide_eq_false (by omega);have e95 : ((r : Int) == 95) = false := by simp; omega
 have t127 : decide ((127 : Int) < (r : Int)) = false := decide_eq_false (by omega);clear h hd;go_enter Tryz.func145, Tryz.ntmps145;go_wp2_with fail
 refine (HD.out).mono ?_;rintro e w1 ⟨rfl, rfl⟩;go_wp2
 go_ret
 exact ⟨rfl, rfl⟩
theorem may_7 (r : Nat) (w : World) (h : 97 ≤ r ∧ r ≤ 122) :
  Calls Tryz.prog 145 #[.int .i32 (r : Int)] w fun e w' => e = .returned (.bool true) ∧ w = w' := by
 have hd : digitR r = false := by
  unfold digitR;rw [show decide (r ≤ 57) = false from decide_eq_false (by omega)]; exact Bool.and_false _
 have HD := Hd (digit_any r w);rw [hd] at HD;have g97 : (97 : Int) ≤ (r : Int) := by omega
 have l122 : (r : Int) ≤ 122 := by omega
 clear h hd;go_enter Tryz.func145, Tryz.ntmps145;go_wp2
 go_ret
 exact ⟨rfl, rfl⟩
theorem may_8 (r : Nat) (w : World) (h : 123 ≤ r ∧ r ≤ 127) :
  Calls Tryz.prog 145 #[.int .i32 (r : Int)] w fun e w' => e = .returned (.bool false) ∧ w = w' := by
 have hd : digitR r = false := by
  unfold digitR;rw [show decide (r ≤ 57) = false from decide_eq_false (by omega)]; exact Bool.and_false _
 have HD := Hd (digit_any r w);rw [hd] at HD;have g97 : (97 : Int) ≤ (r : Int) := by omega
 have l122 : decide ((r : Int) ≤ 122) = false := decide_eq_false (by omega);have g65 : (65 : Int) ≤ (r : Int) := by omega
 have l90 : decide ((r : Int) ≤ 90) = false := decide_eq_false (by omega);have e95 : ((r : Int) == 95) = false := by simp; omega
 have t127 : decide ((127 : Int) < (r : Int)) = false := decide_eq_false (by omega);clear h hd;go_enter Tryz.func145, Tryz.ntmps145;go_wp2_with fail
 refine (HD.out).mono ?_;rintro e w1 ⟨rfl, rfl⟩;go_wp2
 go_ret
 exact ⟨rfl, rfl⟩
theorem may_9 (r : Nat) (w : World) (h : 128 ≤ r) :
  Calls Tryz.prog 145 #[.int .i32 (r : Int)] w fun e w' => e = .returned (.bool true) ∧ w = w' := by
 have hd : digitR r = false := by
  unfold digitR;rw [show decide (r ≤ 57) = false from decide_eq_false (by omega)]; exact Bool.and_false _
 have HD := Hd (digit_any r w);rw [hd] at HD;have g97 : (97 : Int) ≤ (r : Int) := by omega
 have l122 : decide ((r : Int) ≤ 122) = false := decide_eq_false (by omega);have g65 : (65 : Int) ≤ (r : Int) := by omega
 have l90 : decide ((r : Int) ≤ 90) = false := decide_eq_false (by omega);have e95 : ((r : Int) == 95) = false := by simp; omega
 have t127 : (127 : Int) < (r : Int) := by omega
 clear h hd;go_enter Tryz.func145, Tryz.ntmps145;go_wp2_with fail
 refine (HD.out).mono ?_;rintro e w1 ⟨rfl, rfl⟩;go_wp2
 go_ret
 exact ⟨rfl, rfl⟩
theorem may_any (r : Nat) (w : World) :
  Calls Tryz.prog 145 #[.int .i32 (r : Int)] w fun e w' => e = .returned (.bool (mayR r)) ∧ w = w' := by
 by_cases h0 : r < 48
 ·have hv : mayR r = false := by simp [mayR, digitR]; omega
  rw [hv];exact may_0 r w (by omega)
 by_cases h1 : r ≤ 57
 ·have hv : mayR r = true := by simp [mayR, digitR]; omega
  rw [hv];exact may_1 r w (by omega)
 by_cases h2 : r ≤ 64
 ·have hv : mayR r = false := by simp [mayR, digitR]; omega
  rw [hv];exact may_2 r w (by omega)
 by_cases h3 : r ≤ 90
 ·have hv : mayR r = true := by simp [mayR, digitR]; omega
  rw [hv];exact may_3 r w (by omega)
 by_cases h4 : r ≤ 94
 ·have hv : mayR r = false := by simp [mayR, digitR]; omega
  rw [hv];exact may_4 r w (by omega)
 by_cases h5 : r = 95
 ·have hv : mayR r = true := by simp [mayR, digitR]; omega
  rw [hv];exact may_5 r w (by omega)
 by_cases h6 : r = 96
 ·have hv : mayR r = false := by simp [mayR, digitR]; omega
  rw [hv];exact may_6 r w (by omega)
 by_cases h7 : r ≤ 122
 ·have hv : mayR r = true := by simp [mayR, digitR]; omega
  rw [hv];exact may_7 r w (by omega)
 by_cases h8 : r ≤ 127
 ·have hv : mayR r = false := by simp [mayR, digitR]; omega
  rw [hv];exact may_8 r w (by omega)
 have hv : mayR r = true := by simp [mayR, digitR]; omega
 rw [hv];exact may_9 r w (by omega)
theorem not_reserved {s : ByteArray} (h : ∀ t ∈ resvL, s ≠ t) : reservedL (by_ s) = false := by
 unfold reservedL
 cases hc : (resvL.map by_).contains (by_ s) with
 | false => rfl
 | true =>
  obtain ⟨t, ht, he⟩ := List.mem_map.1 (List.contains_iff_mem.1 hc);exact absurd (by_inj he.symm) (h t ht)
theorem text_ne {s : ByteArray} {l : List UInt8} (h : s ≠ ⟨l.toArray⟩) : (s.toList == l) = false := by
 rw [beq_eq_false_iff_ne];intro e;rw [Lib.toList_data] at e;exact h (by_inj (e.trans List.toList_toArray.symm))
theorem reserved_any (s : ByteArray) (w : World) :
  Calls Tryz.prog 144 #[.string s] w fun e w' => e = .returned (.bool (reservedL (by_ s))) ∧ w = w' := by
 by_cases h0 : s = (⟨#[98, 101, 103, 105, 110]⟩ : ByteArray)
 ·subst h0;rw [show reservedL (by_ (⟨#[98, 101, 103, 105, 110]⟩ : ByteArray)) = true by kernel_rfl];go_enter Tryz.func144, Tryz.ntmps144;go_wp2
  go_ret
  exact ⟨rfl, rfl⟩
 by_cases h1 : s = (⟨#[114, 101, 97, 100]⟩ : ByteArray)
 ·subst h1;rw [show reservedL (by_ (⟨#[114, 101, 97, 100]⟩ : ByteArray)) = true by kernel_rfl];clear h0;go_enter Tryz.func144, Tryz.ntmps144;go_wp2
  go_ret
  exact ⟨rfl, rfl⟩
 by_cases h2 : s = (⟨#[119, 114, 105, 116, 101]⟩ : ByteArray)
 ·subst h2;rw [show reservedL (by_ (⟨#[119, 114, 105, 116, 101]⟩ : ByteArray)) = true by kernel_rfl];clear h0 h1;go_enter Tryz.func144, Tryz.ntmps144;go_wp2
  go_ret
  exact ⟨rfl, rfl⟩
 by_cases h3 : s = (⟨#[111, 107]⟩ : ByteArray)
 ·subst h3;rw [show reservedL (by_ (⟨#[111, 107]⟩ : ByteArray)) = true by kernel_rfl];clear h0 h1 h2;go_enter Tryz.func144, Tryz.ntmps144;go_wp2
  go_ret
  exact ⟨rfl, rfl⟩
 by_cases h4 : s = (⟨#[102, 97, 105, 108]⟩ : ByteArray)
 ·subst h4;rw [show reservedL (by_ (⟨#[102, 97, 105, 108]⟩ : ByteArray)) = true by kernel_rfl];clear h0 h1 h2 h3;go_enter Tryz.func144, Tryz.ntmps144;go_wp2
  go_ret
  exact ⟨rfl, rfl⟩
 by_cases h5 : s = (⟨#[105, 110, 102, 111]⟩ : ByteArray)
 ·subst h5;rw [show reservedL (by_ (⟨#[105, 110, 102, 111]⟩ : ByteArray)) = true by kernel_rfl];clear h0 h1 h2 h3 h4;go_enter Tryz.func144, Tryz.ntmps144;go_wp2
  go_ret
  exact ⟨rfl, rfl⟩
 by_cases h6 : s = (⟨#[110, 105, 108]⟩ : ByteArray)
 ·subst h6;rw [show reservedL (by_ (⟨#[110, 105, 108]⟩ : ByteArray)) = true by kernel_rfl];clear h0 h1 h2 h3 h4 h5;go_enter Tryz.func144, Tryz.ntmps144;go_wp2
  go_ret
  exact ⟨rfl, rfl⟩
 have hr : reservedL (by_ s) = false := not_reserved (fun t ht => by
  simp only [resvL, List.mem_cons, List.not_mem_nil, or_false] at ht;rintro rfl;rcases ht with h | h | h | h | h | h | h
  ·exact h0 h
  ·exact h1 h
  ·exact h2 h
  ·exact h3 h
  ·exact h4 h
  ·exact h5 h
  ·exact h6 h
  )
 rw [hr];have e0 : (s.toList == ([98, 101, 103, 105, 110] : List UInt8)) = false := text_ne h0;have e1 : (s.toList == ([114, 101, 97, 100] : List UInt8)) = false := text_ne h1;have e2 : (s.toList == ([119, 114, 105, 116, 101] : List UInt8)) = false := text_ne h2;have e3 : (s.toList == ([111, 107] : List UInt8)) = false := text_ne h3;have e4 : (s.toList == ([102, 97, 105, 108] : List UInt8)) = false := text_ne h4;have e5 : (s.toList == ([105, 110, 102, 111] : List UInt8)) = false := text_ne h5;have e6 : (s.toList == ([110, 105, 108] : List UInt8)) = false := text_ne h6;clear hr h0 h1 h2 h3 h4 h5 h6;go_enter Tryz.func144, Tryz.ntmps144;go_wp2
 go_ret
 exact ⟨rfl, rfl⟩
theorem rreserved_any (s : ByteArray) (w : World) :
  Calls Tryz.prog 109 #[.string s] w fun e w' => e = .returned (.bool (reservedL (by_ s))) ∧ w = w' := by
 by_cases h0 : s = (⟨#[98, 101, 103, 105, 110]⟩ : ByteArray)
 ·subst h0;rw [show reservedL (by_ (⟨#[98, 101, 103, 105, 110]⟩ : ByteArray)) = true by kernel_rfl];go_enter Tryz.func109, Tryz.ntmps109;go_wp2
  go_ret
  exact ⟨rfl, rfl⟩
 by_cases h1 : s = (⟨#[114, 101, 97, 100]⟩ : ByteArray)
 ·subst h1;rw [show reservedL (by_ (⟨#[114, 101, 97, 100]⟩ : ByteArray)) = true by kernel_rfl];clear h0;go_enter Tryz.func109, Tryz.ntmps109;go_wp2
  go_ret
  exact ⟨rfl, rfl⟩
 by_cases h2 : s = (⟨#[119, 114, 105, 116, 101]⟩ : ByteArray)
 ·subst h2;rw [show reservedL (by_ (⟨#[119, 114, 105, 116, 101]⟩ : ByteArray)) = true by kernel_rfl];clear h0 h1;go_enter Tryz.func109, Tryz.ntmps109;go_wp2
  go_ret
  exact ⟨rfl, rfl⟩
 by_cases h3 : s = (⟨#[111, 107]⟩ : ByteArray)
 ·subst h3;rw [show reservedL (by_ (⟨#[111, 107]⟩ : ByteArray)) = true by kernel_rfl];clear h0 h1 h2;go_enter Tryz.func109, Tryz.ntmps109;go_wp2
  go_ret
  exact ⟨rfl, rfl⟩
 by_cases h4 : s = (⟨#[102, 97, 105, 108]⟩ : ByteArray)
 ·subst h4;rw [show reservedL (by_ (⟨#[102, 97, 105, 108]⟩ : ByteArray)) = true by kernel_rfl];clear h0 h1 h2 h3;go_enter Tryz.func109, Tryz.ntmps109;go_wp2
  go_ret
  exact ⟨rfl, rfl⟩
 by_cases h5 : s = (⟨#[105, 110, 102, 111]⟩ : ByteArray)
 ·subst h5;rw [show reservedL (by_ (⟨#[105, 110, 102, 111]⟩ : ByteArray)) = true by kernel_rfl];clear h0 h1 h2 h3 h4;go_enter Tryz.func109, Tryz.ntmps109;go_wp2
  go_ret
  exact ⟨rfl, rfl⟩
 by_cases h6 : s = (⟨#[110, 105, 108]⟩ : ByteArray)
 ·subst h6;rw [show reservedL (by_ (⟨#[110, 105, 108]⟩ : ByteArray)) = true by kernel_rfl];clear h0 h1 h2 h3 h4 h5;go_enter Tryz.func109, Tryz.ntmps109;go_wp2
  go_ret
  exact ⟨rfl, rfl⟩
 have hr : reservedL (by_ s) = false := not_reserved (fun t ht => by
  simp only [resvL, List.mem_cons, List.not_mem_nil, or_false] at ht;rintro rfl;rcases ht with h | h | h | h | h | h | h
  ·exact h0 h
  ·exact h1 h
  ·exact h2 h
  ·exact h3 h
  ·exact h4 h
  ·exact h5 h
  ·exact h6 h
  )
 rw [hr];have e0 : (s.toList == ([98, 101, 103, 105, 110] : List UInt8)) = false := text_ne h0;have e1 : (s.toList == ([114, 101, 97, 100] : List UInt8)) = false := text_ne h1;have e2 : (s.toList == ([119, 114, 105, 116, 101] : List UInt8)) = false := text_ne h2;have e3 : (s.toList == ([111, 107] : List UInt8)) = false := text_ne h3;have e4 : (s.toList == ([102, 97, 105, 108] : List UInt8)) = false := text_ne h4;have e5 : (s.toList == ([105, 110, 102, 111] : List UInt8)) = false := text_ne h5;have e6 : (s.toList == ([110, 105, 108] : List UInt8)) = false := text_ne h6;clear hr h0 h1 h2 h3 h4 h5 h6;go_enter Tryz.func109, Tryz.ntmps109;go_wp2
 go_ret
 exact ⟨rfl, rfl⟩
end Go.Proofs.YtjfbeeogiejopaaGreatDoor
namespace Go.Proofs
open Go.Shelf
def Tryz.laysValid_ren : Go.Shelf.Ren := ⟨fun | 196 => 115 | 259 => 139 | n => n, fun | 9 => 9 | 4 => 4 | 3 => 3 | 5 => 5 | 12 => 12 | 119 => 188 | 0 => 0 | 46 => 145 | 139 => 191 | 138 => 190 | 53 => 182 | n => n, fun | 3 => 0 | 4 => 1 | n => n⟩
theorem Tryz.laysValid : Go.Proofs.Lays.n196 Tryz.prog Tryz.laysValid_ren := {
 mixed := by kernel_rfl
 f196 := Tryz.func115.trans (congrArg some (by kernel_rfl))
 f259 := Tryz.func139.trans (congrArg some (by kernel_rfl))
 t0 := Tryz.underlying0
 a0 := Tryz.isAgg0
 z0 := Tryz.sizeOf0
 v0 := Tryz.zeroValue0
 t3 := Tryz.underlying3
 a3 := Tryz.isAgg3
 z3 := Tryz.sizeOf3
 v3 := Tryz.zeroValue3
 t4 := Tryz.underlying4
 a4 := Tryz.isAgg4
 z4 := Tryz.sizeOf4
 v4 := Tryz.zeroValue4
 t5 := Tryz.underlying5
 a5 := Tryz.isAgg5
 z5 := Tryz.sizeOf5
 v5 := Tryz.zeroValue5
 t9 := Tryz.underlying9
 a9 := Tryz.isAgg9
 z9 := Tryz.sizeOf9
 v9 := Tryz.zeroValue9
 t12 := Tryz.underlying12
 a12 := Tryz.isAgg12
 z12 := Tryz.sizeOf12
 v12 := Tryz.zeroValue12
 t46 := Tryz.underlying145
 a46 := Tryz.isAgg145
 z46 := Tryz.sizeOf145
 v46 := Tryz.zeroValue145
 t53 := Tryz.underlying182
 a53 := Tryz.isAgg182
 z53 := Tryz.sizeOf182
 v53 := Tryz.zeroValue182
 t119 := Tryz.underlying188
 a119 := Tryz.isAgg188
 z119 := Tryz.sizeOf188
 t138 := Tryz.underlying190
 a138 := Tryz.isAgg190
 z138 := Tryz.sizeOf190
 v138 := Tryz.zeroValue190
 t139 := Tryz.underlying191
 a139 := Tryz.isAgg191
 z139 := Tryz.sizeOf191
 v139 := Tryz.zeroValue191
 g3 := by kernel_rfl
 g4 := by kernel_rfl }
end Go.Proofs
namespace Go.Proofs.YtjfbeeogiejopaaGreatDoor
open Go.RowKit Go.Lib
theorem only_iter {w w' : World} {S : List Nat} (h : Only S w w') {k : Nat} (s : ByteArray) (pos : Nat) (hk : k < w.heap.size → k ∈ S) : Only S w (w'.iterAt k s pos) :=
 ⟨h.os, h.tape, h.output, by rw [iterAt_size]; exact h.size, fun i hi hs => by
  rw [iterAt_other w' k i s pos (fun e => hs (e ▸ hk (e ▸ hi)))];exact h.keeps i hi hs⟩
theorem own_iter {w : World} {base : Nat} {e : TypeId} {size : Nat} {v : Value} {n : Nat} {xs : List Value} (h : w.ownsRow base e size v n xs) {k : Nat} {s : ByteArray} {pos : Nat} (hk : w.heap[k]? = some (.stringIter s pos)) (pos' : Nat) : (w.iterAt k s pos').ownsRow base e size v n xs := by
 have hO : Only [k] w (w.iterAt k s pos') := only_iter (Only.refl [k] w) s pos' (by simp);refine own_only h hO (fun g hg hm => ?_);simp at hm;subst hm;obtain ⟨cur, hcur⟩ := own_blk h hg;unfold Blk at hcur;rw [hk] at hcur
 cases hcur
theorem tinfo_string : (Tryz.prog.info? 9).map (fun i => (i.zero, i.size, i.bytes)) = some (some (.string ⟨#[]⟩), 1, 16) := by kernel_rfl
def strs (xs : List ByteArray) : List Value := xs.map Value.string
end Go.Proofs.YtjfbeeogiejopaaGreatDoor
namespace Go.Proofs.YtjfbeeogiejopaaGreatDoor
open Go.RowKit
open Go.Lib hiding intOf
attribute [local go_sem ↓] Go.wp_at_zero Go.wp_at_succ
def UTabs (w : World) : Prop := Lib.Utf8Tabs (Tryz.laysValid_ren.g 3) (Tryz.laysValid_ren.g 4) w
theorem UTabs.only {w w' : World} (h : UTabs w) (ho : Only [] w w') : UTabs w' := Utf8Tabs_below h (ho.below (Nat.le_refl _) (by simp))
theorem valid_any (x : ByteArray) (w : World) (hs : x.size ≤ 9223372036854775807) (hT : UTabs w) :
  Calls Tryz.prog 115 #[.string x] w fun e w' => e = .returned (.bool (validD (by_ x))) ∧ Only [] w w' := by
 have h : Calls Tryz.prog 115 #[.string x] w _ := Any.utf8_ValidString Tryz.laysValid x w hs hT;exact h.mono fun e w' ⟨h1, h2⟩ => ⟨h1, Only.of_below h2 []⟩
theorem runes_dec (a : ByteArray) (pos : Nat) (h : pos < a.size) : runesL ((by_ a).drop pos) = (Utf8.decode a pos).1 :: runesL ((by_ a).drop (pos + (Utf8.decode a pos).2)) := by
 rw [runes_step (by intro e; have := congrArg List.length e; rw [List.length_drop, by_length] at this; simp at this; omega), decL_at, List.drop_drop]
theorem size_ne {c : ByteArray} (h : c ≠ ⟨#[]⟩) : 0 < c.size := by
 rcases Nat.eq_zero_or_pos c.size with h0 | h0
 ·exfalso
  refine h (by_inj ?_);have : (by_ c).length = 0 := by rw [by_length, h0]
  rw [List.eq_nil_of_length_eq_zero this]
  rfl
 ·exact h0
theorem is_any (s : ByteArray) (w : World) (hs : s.size ≤ 9223372036854775807) (hT : UTabs w) :
  Calls Tryz.prog 119 #[.string s] w fun e w' => e = .returned (.bool (isName s)) ∧ Only [] w w' := by
 have HV := Hd (valid_any s w hs hT);have HRS := Hd (fun w' => reserved_any s w');have HMY := Hd (fun r w' => may_any r w');have HDG := Hd (fun r w' => digit_any r w');obtain ⟨R, hR⟩ : ∃ R, R = isName s := ⟨_, rfl⟩;rw [← hR];unfold isName at hR;obtain ⟨v, hv⟩ : ∃ v, v = validD (by_ s) := ⟨_, rfl⟩;obtain ⟨x, hx⟩ : ∃ x, x = reservedL (by_ s) := ⟨_, rfl⟩;rw [← hv] at HV hR;rw [← hx] at HRS hR;have HR := Hd hR;clear hR hT hv hx;go_enter Tryz.func119, Tryz.ntmps119;go_wp2_with fail
 refine (HV.out).mono ?_;rintro e w1 ⟨rfl, hO1⟩;have HO1 := Hd hO1;clear hO1
 cases v with
 | false =>
  have HF : Hid (R = false) := Hd (by rw [HR.out]; simp);go_wp2
  go_ret
  exact ⟨by first | (rw [HF.out]; done) | (rw [HF.out]; rfl), HO1.out⟩
 | true =>
  go_wp2_with fail
  refine (HRS.out w1).mono ?_;rintro e w1' ⟨rfl, rfl⟩
  cases x with
  | true =>
   have HF : Hid (R = false) := Hd (by rw [HR.out]; simp);go_wp2
   go_ret
   exact ⟨by first | (rw [HF.out]; done) | (rw [HF.out]; rfl), HO1.out⟩
  | false =>
   have HR2 : Hid (R = nameL (runesL (by_ s))) := Hd (by rw [HR.out]; simp);clear HR HV HRS;have hO1s := HO1.out.size;go_wp2
   go_loopw [3] (fun nv wr => ∃ (pos k : Nat) (pre : List Nat), nv = .int .i64 k ∧ pos ≤ s.size ∧ k ≤ 20 ∧ Hid (pre.length = k) ∧ Hid (OkPre pre) ∧ Hid (runesL (by_ s) = pre ++ runesL ((by_ s).drop pos)) ∧ Hid (wr.heap[w1.heap.size]? = some (.stringIter s pos)) ∧ Hid (Only [] w wr)) (fun _ wr => s.size - wr.iterPos w1.heap.size)
   case atStart => exact ⟨0, 0, [], rfl, by omega, by omega, Hd rfl, Hd okPre_nil, Hd rfl, Hd (World.iter_heap w1 s 0), Hd (HO1.out.alloc _)⟩
   case round =>
    obtain ⟨pos, k, pre, rfl, hpos, hk, HK, HOK, HRU, HIT, HO⟩ := hrel
    by_cases hp : pos < s.size
    ·have hnx : ∀ ty, (Instr.next (.pointer (some ⟨w1.heap.size, 0, none⟩)) true ty).run Tryz.prog wr = _ := fun ty => run_next_any_at wr w1.heap.size s pos ty HIT.out hp;have hwd := width_le s pos hp;have hip := iterPos_of HIT.out;have HST := Hd (runes_dec s pos hp);obtain ⟨⟨r, wd⟩, hdec⟩ : ∃ d, d = Utf8.decode s pos := ⟨_, rfl⟩;rw [← hdec] at hnx hwd HST;dsimp only at hwd;have HIT2 := Hd (iterAt_heap wr w1.heap.size s pos (pos + wd) HIT.out);have hip2 := iterPos_of HIT2.out;have HO2 := Hd (only_iter HO.out s (pos + wd) (k := w1.heap.size) (fun h => by omega));have HM1 := Hd (fun w' => HMY.out r w');have HD1 := Hd (fun w' => HDG.out r w');have HN : Hid (R = nameL (pre ++ r :: runesL ((by_ s).drop (pos + wd)))) := Hd (by rw [HR2.out, HRU.out, HST.out]);obtain ⟨w3, hw3⟩ : ∃ w3, w3 = wr.iterAt w1.heap.size s (pos + wd) := ⟨_, rfl⟩;rw [← hw3] at hnx HIT2 HO2 hip2;obtain ⟨m, hm⟩ : ∃ m, m = mayR r := ⟨_, rfl⟩;obtain ⟨d, hd⟩ : ∃ d, d = digitR r := ⟨_, rfl⟩;rw [← hm] at HM1;rw [← hd] at HD1;have hwd1 := hwd.1;have hwd2 := hwd.2;have HMM := Hd hm;have HDD := Hd hd;have hwk : IntKind.i64.wrap ((k : Int) + 1) = (k : Int) + 1 := IntWalk.i64_in _ (by omega);clear hdec hw3 hwd HIT HO hm hd
     cases m with
     | false =>
      have HF : Hid (R = false) := Hd (by rw [HN.out]; exact name_bad1 _ _ _ HMM.out.symm);go_wp2_with fail
      refine (HM1.out _).mono ?_;rintro e w4 ⟨rfl, rfl⟩;go_wp2
      go_ret
      exact ⟨by first | (rw [HF.out]; done) | (rw [HF.out]; rfl), HO2.out⟩
     | true =>
      by_cases hk0 : k = 0
      ·subst hk0;have hpn : pre = [] := List.eq_nil_of_length_eq_zero HK.out;subst hpn;go_wp2_with fail
       refine (HM1.out _).mono ?_;rintro e w4 ⟨rfl, rfl⟩
       cases d with
       | true =>
        have HF : Hid (R = false) := Hd (by rw [HN.out]; exact name_bad2 _ _ HDD.out.symm);go_wp2_with fail
        refine (HD1.out _).mono ?_;rintro e w4 ⟨rfl, rfl⟩;go_wp2
        go_ret
        exact ⟨by first | (rw [HF.out]; done) | (rw [HF.out]; rfl), HO2.out⟩
       | false =>
        have HOK2 := Hd (okPre_snoc HOK.out HMM.out.symm (fun _ => HDD.out.symm));have HRU2 : Hid (runesL (by_ s) = ([] ++ [r]) ++ runesL ((by_ s).drop (pos + wd))) := Hd (by rw [HRU.out, HST.out]; simp);clear HN;go_wp2_with fail
        refine (HD1.out _).mono ?_;rintro e w4 ⟨rfl, rfl⟩;go_wp2
        go_roundw
        case rel => exact ⟨pos + wd, 1, [] ++ [r], rfl, by omega, by omega, Hd rfl, HOK2, HRU2, HIT2, HO2⟩
        case measure => rw [hip, hip2]; omega
      ·have hk1 : ((k : Int) == 0) = false := by simp; omega
       by_cases hk20 : k = 20
       ·subst hk20;have HF : Hid (R = false) := Hd (by rw [HN.out]; exact name_bad3 _ _ _ HK.out);go_wp2_with fail
        refine (HM1.out _).mono ?_;rintro e w4 ⟨rfl, rfl⟩;go_wp2
        go_ret
        exact ⟨by first | (rw [HF.out]; done) | (rw [HF.out]; rfl), HO2.out⟩
       ·have hk2 : ((k : Int) == 20) = false := by simp; omega
        have HOK2 := Hd (okPre_snoc HOK.out HMM.out.symm (fun e => by exfalso; have := HK.out; rw [e] at this; simp at this; omega));have HRU2 : Hid (runesL (by_ s) = (pre ++ [r]) ++ runesL ((by_ s).drop (pos + wd))) := Hd (by rw [HRU.out, HST.out]; simp);have HK2 : Hid ((pre ++ [r]).length = k + 1) := Hd (by rw [List.length_append, HK.out]; rfl);clear HN;go_wp2_with fail
        refine (HM1.out _).mono ?_;rintro e w4 ⟨rfl, rfl⟩;go_wp2
        go_roundw
        case rel => exact ⟨pos + wd, k + 1, pre ++ [r], by go_num, by omega, by omega, HK2, HOK2, HRU2, HIT2, HO2⟩
        case measure => rw [hip, hip2]; omega
    ·have hnx : ∀ ty, (Instr.next (.pointer (some ⟨w1.heap.size, 0, none⟩)) true ty).run Tryz.prog wr = _ := fun ty => run_next_end_at wr w1.heap.size s pos ty HIT.out hp;have hl : (by_ s).drop pos = [] := List.drop_of_length_le (by rw [by_length]; omega);have HF : Hid (R = decide (0 < k)) := Hd (by rw [HR2.out, HRU.out, hl, runes_nil, List.append_nil, okPre_name HOK.out (by rw [HK.out]; exact hk), HK.out]);clear hl;go_wp2
     go_ret
     exact ⟨by first | (rw [HF.out]; done) | (rw [HF.out]; rfl), HO.out⟩
end Go.Proofs.YtjfbeeogiejopaaGreatDoor
namespace Go.Proofs.YtjfbeeogiejopaaGreatDoor
open Go.RowKit
def mayB (k n : Int) : Bool := decide (k = 1) || (decide (k = 0 ∨ k = 2) && decide (n = 0))
theorem ret_boolv {a b : Bool} (h : a = b) : Ending.returned (.bool a) = .returned (.bool b) := by rw [h]
theorem vmay_any (k n : Int) (w : World) : Calls Tryz.prog 94 #[.agg #[.int .i64 k, .int .i64 n]] w fun e w' => e = .returned (.bool (mayB k n)) ∧ Only [] w w' := by
 unfold mayB
 by_cases h1 : k = 1
 ·subst h1;go_enter Tryz.func94, Tryz.ntmps94;go_wp2
  go_ret
  exact ⟨by simp, (Only.refl _ _).alloc _⟩
 ·have h1' : (k == 1) = false := by simp [h1]
  have H1 := Hd h1;clear h1
  by_cases h0 : k = 0
  ·subst h0;go_enter Tryz.func94, Tryz.ntmps94;go_wp2
   go_ret
   exact ⟨ret_boolv (by simp; try (rw [Bool.eq_iff_iff]; simp)), (Only.refl _ _).alloc _⟩
  ·have h0' : (k == 0) = false := by simp [h0]
   have H0 := Hd h0;clear h0
   by_cases h2 : k = 2
   ·subst h2;go_enter Tryz.func94, Tryz.ntmps94;go_wp2
    go_ret
    exact ⟨ret_boolv (by simp; try (rw [Bool.eq_iff_iff]; simp)), (Only.refl _ _).alloc _⟩
   ·have h2' : (k == 2) = false := by simp [h2]
    have H2 := Hd h2;clear h2;go_enter Tryz.func94, Tryz.ntmps94;go_wp2
    go_ret
    exact ⟨ret_boolv (by simp [H0.out, H1.out, H2.out]), (Only.refl _ _).alloc _⟩
open Go.Lib hiding intOf
attribute [local go_sem ↓] Go.wp_at_zero Go.wp_at_succ
def evOk (k : Int) (s y : ByteArray) (vk vn : Int) : Bool :=
 kOk k && isName s && (if kO k = true then (!(decide (k = 3) && decide (vk ≠ 1)) && (isName y && mayB vk vn)) else (decide (y = ⟨#[]⟩) && decide (vk = 0 ∧ vn = 0)))
theorem evmay_any (k : Int) (s y : ByteArray) (vk vn ln : Int) (w : World) (hs : s.size ≤ 9223372036854775807) (hy : y.size ≤ 9223372036854775807) (hT : UTabs w) (hV : Verbs w) :
  Calls Tryz.prog 148 #[.agg #[.int .i64 k, .string s, .string y, .int .i64 vk, .int .i64 vn, .int .i64 ln]] w fun e w' => e = .returned (.bool (evOk k s y vk vn)) ∧ Only [] w w' := by
 obtain ⟨r, hr⟩ : ∃ r, r = evOk k s y vk vn := ⟨_, rfl⟩;rw [← hr];have HK := Hd (fun w' (hO : Only [] w w') => ofKind_any k w' (hV.only hO));have HS := Hd (fun w' (hO : Only [] w w') => is_any s w' hs (hT.only hO));have HY := Hd (fun w' (hO : Only [] w w') => is_any y w' hy (hT.only hO));have HM := Hd (fun w' => vmay_any vk vn w');obtain ⟨kk, hkk⟩ : ∃ x, x = kN k := ⟨_, rfl⟩;obtain ⟨kw, hkw⟩ : ∃ x, x = kW k := ⟨_, rfl⟩;obtain ⟨ko, hko⟩ : ∃ x, x = kO k := ⟨_, rfl⟩;obtain ⟨is, his⟩ : ∃ x, x = kOk k := ⟨_, rfl⟩;obtain ⟨ns, hns⟩ : ∃ x, x = isName s := ⟨_, rfl⟩;obtain ⟨ny, hny⟩ : ∃ x, x = isName y := ⟨_, rfl⟩;obtain ⟨mv, hmv⟩ : ∃ x, x = mayB vk vn := ⟨_, rfl⟩;unfold evOk at hr;rw [← hko, ← his, ← hns, ← hny, ← hmv] at hr;rw [← hkk, ← hkw, ← hko, ← his] at HK;rw [← hns] at HS;rw [← hny] at HY;rw [← hmv] at HM;have HR := Hd hr;have bE := Blk.made w 128 #[.int .i64 k, .string s, .string y, .int .i64 vk, .int .i64 vn, .int .i64 ln];have HO := Hd ((Only.refl [] w).alloc (.cells #[.int .i64 k, .string s, .string y, .int .i64 vk, .int .i64 vn, .int .i64 ln] 128));have HE := Hd bE;clear hr hkk hkw hko his hns hny hmv hs hy hT hV bE;go_enter Tryz.func148, Tryz.ntmps148;go_wp2_with fail
 refine (HK.out _ HO.out).mono ?_;rintro e w1 ⟨rfl, O1⟩;have HO1 := Hd ((HO.out.trans O1).alloc (.cells #[.int .i64 kk, .string kw, .bool ko] 151));have HE1 := Hd ((O1.blk HE.out (by simp)).alloc (.cells #[.int .i64 kk, .string kw, .bool ko] 151));have HV1 := Hd (Blk.made w1 151 #[.int .i64 kk, .string kw, .bool ko]);have hw1 := HO1.out.size;have e1 := (O1.blk HE.out (by simp)).at_ 1;have l1 := (O1.blk HE.out (by simp)).lt;simp at e1;clear O1
 cases is with
 | false =>
  go_wp2
  go_ret
  exact ⟨by rw [HR.out]; rfl, HO1.out⟩
 | true =>
  go_wp2_with fail
  refine (HS.out _ HO1.out).mono ?_;rintro e w2 ⟨rfl, O2⟩;have HO2 := Hd (HO1.out.trans O2);have bE2 := O2.blk HE1.out (by simp);have bV2 := O2.blk HV1.out (by simp);clear e1 l1 O2;have lE := bE2.lt;have lV := bV2.lt;have f0 := bE2.at_ 0;have f2 := bE2.at_ 2;have f3 := bE2.at_ 3;have f4 := bE2.at_ 4;have v2 := bV2.at_ 2;simp at f0 f2 f3 f4 v2
  cases ns with
  | false =>
   go_wp2
   go_ret
   exact ⟨by rw [HR.out]; rfl, HO2.out⟩
  | true =>
   cases ko with
   | false =>
    by_cases hy0 : y = ⟨#[]⟩
    ·subst hy0
     by_cases h1 : vk = 0
     ·subst h1
      by_cases h2 : vn = 0
      ·subst h2;go_wp2
       go_ret
       exact ⟨by rw [HR.out]; rfl, HO2.out⟩
      ·have h2' : (vn == 0) = false := by simpa using h2
       have HX := Hd h2;clear h2;go_wp2
       go_ret
       exact ⟨by rw [HR.out]; simp [HX.out], HO2.out⟩
     ·have h1' : (vk == 0) = false := by simpa using h1
      have HX := Hd h1;clear h1;go_wp2
      go_ret
      exact ⟨by rw [HR.out]; simp [HX.out], HO2.out⟩
    ·have h0' : (y.toList == []) = false := (ev_ne (l := []) hy0).1;have HX := Hd hy0;clear hy0;go_wp2
     go_ret
     exact ⟨by rw [HR.out]; simp [HX.out], HO2.out⟩
   | true =>
    have HRK : Hid (r = (!(decide (k = 3) && decide (vk ≠ 1)) && (ny && mv))) := Hd (by rw [HR.out]; simp);have hcase : (k = 3 ∧ (vk != 1) = true ∧ r = false) ∨ (k = 3 ∧ vk = 1 ∧ r = (ny && mv)) ∨ ((k == 3) = false ∧ r = (ny && mv)) := by
     rw [HRK.out]
     by_cases h3 : k = 3
     ·by_cases h1 : vk = 1
      ·exact .inr (.inl ⟨h3, h1, by simp [h3, h1]⟩)
      ·exact .inl ⟨h3, by simp [h1], by simp [h3, h1]⟩
     ·exact .inr (.inr ⟨by simp [h3], by simp [h3]⟩)
    clear HRK;rcases hcase with ⟨rfl, q2, q3⟩ | ⟨rfl, rfl, q3⟩ | ⟨q1, q3⟩
    ·have HQ := Hd q3;clear q3;go_wp2
     go_ret
     exact ⟨by rw [HQ.out]; rfl, HO2.out⟩
    all_goals
     have HQ := Hd q3;clear q3;go_wp2_with fail
     refine (HY.out _ HO2.out).mono ?_;rintro e w3 ⟨rfl, O3⟩;have HO3 := Hd (HO2.out.trans O3);have bE3 := O3.blk bE2 (by simp);clear f0 f2 f3 f4 v2 lE lV O3;have lE := bE3.lt;have f3 := bE3.at_ 3;have f4 := bE3.at_ 4;simp at f3 f4
     cases ny with
     | false =>
      go_wp2
      go_ret
      exact ⟨by rw [HQ.out]; rfl, HO3.out⟩
     | true =>
      go_wp2_with fail
      refine (HM.out _).mono ?_;rintro e w4 ⟨rfl, O4⟩;have HO4 := Hd (HO3.out.trans O4);clear O4;go_wp2
      go_ret
      exact ⟨by rw [HQ.out]; rfl, HO4.out⟩
end Go.Proofs.YtjfbeeogiejopaaGreatDoor
namespace Go.Proofs.YtjfbeeogiejopaaGreatDoor
open Go.Lib
theorem snoc_ind {α : Type} {P : List α → Prop} (nil : P []) (append_singleton : ∀ l c, P l → P (l ++ [c])) (l : List α) : P l := by
 have h : ∀ m : List α, P m.reverse := by
  intro m
  induction m with
  | nil => simpa using nil
  | cons a m ih => rw [List.reverse_cons]; exact append_singleton _ _ ih
 have := h l.reverse
 rwa [List.reverse_reverse] at this
def isDig (c : UInt8) : Bool := decide (48 ≤ c.toNat) && decide (c.toNat ≤ 57)
def val (l : List UInt8) : Nat := l.foldl (fun n c => n * 10 + (c.toNat - 48)) 0
theorem val_snoc (l : List UInt8) (c : UInt8) : val (l ++ [c]) = val l * 10 + (c.toNat - 48) := by simp [val, List.foldl_append]
def neg (l : List UInt8) : Bool := l.head? == some 45
def rest (l : List UInt8) : List UInt8 := if neg l then l.drop 1 else l
def digB (l : List UInt8) : Bool := !(rest l).isEmpty && !((rest l).head? == some 48 && (neg l || decide (1 < (rest l).length))) && (rest l).all isDig
def prE (l : List UInt8) : Int :=
 if digB l = false then 5 else if (neg l = true ∧ val (rest l) ≤ 9223372036854775808) ∨ (neg l = false ∧ val (rest l) < 9223372036854775808) then 0 else 8
def prN (l : List UInt8) : Int := if prE l = 0 then (if neg l then -(val (rest l) : Int) else val (rest l)) else 0
theorem isDig_iff {c : UInt8} : isDig c = true ↔ 48 ≤ c.toNat ∧ c.toNat ≤ 57 := by simp [isDig]

/-! ### The numeral -/
def ahead (b : Bool) (u : Nat) : List UInt8 := if b || decide (0 < u) then decDigits u else []
theorem val_bounds : ∀ (l : List UInt8), l.all isDig = true → val l < 10 ^ l.length := by
 intro l
 induction l using snoc_ind with
 | nil => intro _; simp [val]
 | append_singleton l c ih =>
  intro h;simp only [List.all_append, List.all_cons, List.all_nil, Bool.and_true, Bool.and_eq_true, isDig_iff] at h;have := ih h.1;rw [val_snoc, List.length_append, List.length_singleton, Nat.pow_succ];omega
theorem val_low : ∀ (l : List UInt8), l.all isDig = true → l ≠ [] → l.head? ≠ some 48 → 10 ^ (l.length - 1) ≤ val l := by
 intro l
 induction l using snoc_ind with
 | nil => intro _ h; exact absurd rfl h
 | append_singleton l c ih =>
  intro h _ hh;simp only [List.all_append, List.all_cons, List.all_nil, Bool.and_true, Bool.and_eq_true, isDig_iff] at h;rw [val_snoc, List.length_append, List.length_singleton, Nat.add_sub_cancel]
  cases l with
  | nil =>
   simp only [List.nil_append, List.head?_cons, ne_eq, Option.some.injEq] at hh;have : c.toNat ≠ 48 := fun e => hh (UInt8.toNat.inj (by rw [e]; rfl));simp [val];omega
  | cons a t =>
   have h2 := ih h.1 (by simp) (by simpa using hh);simp only [List.length_cons, Nat.add_sub_cancel] at h2;simp only [List.length_cons, Nat.pow_succ];omega
theorem digB_parts {l : List UInt8} (h : digB l = true) : rest l ≠ [] ∧ (rest l).all isDig = true ∧ ((rest l).head? = some 48 → neg l = false ∧ (rest l).length = 1) := by
 unfold digB at h;simp only [Bool.and_eq_true, Bool.not_eq_true', List.isEmpty_eq_false_iff, Bool.and_eq_false_iff, Bool.or_eq_false_iff, decide_eq_false_iff_not] at h;obtain ⟨⟨h1, h2⟩, h3⟩ := h;refine ⟨h1, h3, fun e => ?_⟩;rcases h2 with h2 | ⟨h2, h4⟩
 ·simp [e] at h2
 ·refine ⟨h2, ?_⟩
  cases hr : rest l with
  | nil => exact absurd hr h1
  | cons a t =>
   rw [hr] at h4;simp only [List.length_cons] at h4 ⊢;omega
theorem prE_long {l : List UInt8} (hd : digB l = true) (h : 19 < (rest l).length) : prE l = 8 ∧ prN l = 0 := by
 obtain ⟨h1, h2, h3⟩ := digB_parts hd;have hlow := val_low (rest l) h2 h1 (fun e => by have := (h3 e).2; omega);have h19 : 10 ^ 19 ≤ val (rest l) := Nat.le_trans (Nat.pow_le_pow_right (by decide) (by omega)) hlow;have e : prE l = 8 := by
  unfold prE;rw [hd];simp only [Bool.true_eq_false, if_false];rw [if_neg];omega
 exact ⟨e, by unfold prN; rw [if_neg (by rw [e]; decide)]⟩
theorem pr_neg {l : List UInt8} (hd : digB l = true) (hn : neg l = true) (hv : val (rest l) ≤ 9223372036854775808) : prE l = 0 ∧ prN l = -(val (rest l) : Int) := by
 have e : prE l = 0 := by unfold prE; rw [hd, if_neg (by simp), if_pos (.inl ⟨hn, hv⟩)]
 exact ⟨e, by unfold prN; rw [if_pos e, hn]; rfl⟩
theorem pr_neg_big {l : List UInt8} (hd : digB l = true) (hn : neg l = true) (hv : 9223372036854775808 < val (rest l)) : prE l = 8 ∧ prN l = 0 := by
 have e : prE l = 8 := by unfold prE; rw [hd, if_neg (by simp), if_neg (by rw [hn]; simp; omega)]
 exact ⟨e, by unfold prN; rw [e]; rfl⟩
theorem pr_pos {l : List UInt8} (hd : digB l = true) (hn : neg l = false) (hv : val (rest l) < 9223372036854775808) : prE l = 0 ∧ prN l = val (rest l) := by
 have e : prE l = 0 := by unfold prE; rw [hd, if_neg (by simp), if_pos (.inr ⟨hn, hv⟩)]
 exact ⟨e, by unfold prN; rw [if_pos e, hn]; rfl⟩
theorem pr_pos_big {l : List UInt8} (hd : digB l = true) (hn : neg l = false) (hv : 9223372036854775808 ≤ val (rest l)) : prE l = 8 ∧ prN l = 0 := by
 have e : prE l = 8 := by unfold prE; rw [hd, if_neg (by simp), if_neg (by rw [hn]; simp; omega)]
 exact ⟨e, by unfold prN; rw [e]; rfl⟩
theorem val_take_le (l : List UInt8) (k : Nat) (h : (l.take k).all isDig = true) : val (l.take k) < 10 ^ k := by
 have := val_bounds (l.take k) h;exact Nat.lt_of_lt_of_le this (Nat.pow_le_pow_right (by decide) (List.length_take_le _ _))
end Go.Proofs.YtjfbeeogiejopaaGreatDoor
namespace Go.Proofs.YtjfbeeogiejopaaGreatDoor
open Go.RowKit
def pvK (l : List UInt8) : Int := if l = [110, 105, 108] then 0 else if l = [63] then 2 else if prE l = 0 then 1 else 0
def pvN (l : List UInt8) : Int := if l = [110, 105, 108] then 0 else if l = [63] then 0 else if prE l = 0 then prN l else 0
def pvE (l : List UInt8) : Int := if l = [110, 105, 108] then 0 else if l = [63] then 0 else prE l
theorem hasPrefix_any (s p : ByteArray) (w : World) (h : s.size ≤ 9223372036854775807) (hp : p.size ≤ 9223372036854775807) :
  Calls Tryz.prog 183 #[.string s, .string p] w fun e w' => e = .returned (.bool (Lib.hasPrefix s.data.toList p.data.toList)) ∧ w = w' := by
 go_enter Tryz.func183, Tryz.ntmps183
 by_cases hle : (p.size : Int) ≤ s.size
 all_goals
  go_wp2
  go_ret
  refine ⟨?_, rfl⟩;rw [← Lib.hasPrefix_raw];simp [hle];try omega
theorem cutPrefix_lite (s p : ByteArray) (w : World) (h : s.size ≤ 9223372036854775807) (hp : p.size ≤ 9223372036854775807) :
  Calls Tryz.prog 178 #[.string s, .string p] w fun e w' => e = .returned (.tuple #[.string ⟨(Lib.trimPrefix s.data.toList p.data.toList).toArray⟩, .bool (Lib.hasPrefix s.data.toList p.data.toList)]) ∧ w = w' := by
 have hc := hasPrefix_any s p w h hp
 cases hb : Lib.hasPrefix s.data.toList p.data.toList with
 | true =>
  rw [← Lib.hasPrefix_raw] at hb;simp only [Bool.and_eq_true, decide_eq_true_eq] at hb;have HT := Hd (Lib.trimPrefix_hit s p hb.1 hb.2);rw [← Lib.hasPrefix_raw] at hc;rw [show (decide (p.size ≤ s.size) && ((s.extract 0 p.size).toList == p.toList)) = true by simp [hb]] at hc;have HC := Hd hc;have hle : (p.size : Int) ≤ s.size := by have := hb.1; omega
  clear hb hc;go_enter Tryz.func178, Tryz.ntmps178;go_wp2_with fail
  refine HC.out.mono ?_;rintro e w' ⟨rfl, rfl⟩;go_wp2
  go_ret2
  rw [HT.out];exact ⟨rfl, rfl⟩
 | false =>
  have hb' := hb;rw [← Lib.hasPrefix_raw] at hb;have HT := Hd (Lib.trimPrefix_miss s p hb);rw [hb'] at hc;have HC := Hd hc;clear hb hc hb';go_enter Tryz.func178, Tryz.ntmps178;go_wp2_with fail
  refine HC.out.mono ?_;rintro e w' ⟨rfl, rfl⟩;go_wp2
  go_ret2
  rw [HT.out];exact ⟨rfl, rfl⟩
theorem cutPrefix_any (s p : ByteArray) (w : World) (h : s.size ≤ 9223372036854775807) (hp : p.size ≤ 9223372036854775807) :
  Calls Tryz.prog 172 #[.string s, .string p] w fun e w' => e = .returned (.tuple #[.string ⟨(Lib.trimPrefix s.data.toList p.data.toList).toArray⟩, .bool (Lib.hasPrefix s.data.toList p.data.toList)]) ∧ w = w' := by
 go_enter Tryz.func172, Tryz.ntmps172;go_wp2_with fail
 refine (cutPrefix_lite s p _ h hp).mono ?_;rintro e w' ⟨rfl, rfl⟩;go_wp2
 go_ret2
 exact ⟨rfl, rfl⟩
theorem hasPrefix_dash (l : List UInt8) : Lib.hasPrefix l [45] = neg l := by
 cases l with
 | nil => rfl
 | cons a t =>
  simp only [Lib.hasPrefix, neg, List.isPrefixOf, List.head?_cons];rw [Bool.eq_iff_iff];simp;exact eq_comm
theorem trimPrefix_dash (l : List UInt8) : Lib.trimPrefix l [45] = rest l := by
 unfold Lib.trimPrefix rest;rw [hasPrefix_dash]
 rfl
theorem cut_dash (s : ByteArray) (w : World) (h : s.size ≤ 9223372036854775807) :
  Calls Tryz.prog 172 #[.string s, .string ⟨#[45]⟩] w fun e w' => ∃ r : ByteArray, (e = .returned (.tuple #[.string r, .bool (neg s.data.toList)]) ∧ r.data.toList = rest s.data.toList) ∧ w = w' := by
 refine (cutPrefix_any s ⟨#[45]⟩ w h (by decide)).mono ?_;rintro e w' ⟨rfl, rfl⟩;rw [show (⟨#[45]⟩ : ByteArray).data.toList = [45] from rfl, hasPrefix_dash, trimPrefix_dash];exact ⟨_, ⟨rfl, rfl⟩, rfl⟩
theorem digB_of {l t : List UInt8} {n : Bool} (hr : t = rest l) (hn : n = neg l) (h0 : t ≠ []) (h1 : ¬ (t.head? = some 48 ∧ (n = true ∨ 1 < t.length))) : digB l = t.all isDig := by
 unfold digB;rw [← hr, ← hn];have e1 : t.isEmpty = false := by simpa using h0
 rw [e1];have e2 : (t.head? == some 48 && (n || decide (1 < t.length))) = false := by
  rw [Bool.eq_false_iff];intro h;simp only [Bool.and_eq_true, Bool.or_eq_true, decide_eq_true_eq, beq_iff_eq] at h;exact h1 h
 rw [e2];simp
theorem digB_empty {l : List UInt8} (h : rest l = []) : digB l = false := by unfold digB; simp [h]
theorem digB_zero {l : List UInt8} (h : (rest l).head? = some 48) (h2 : neg l = true ∨ 1 < (rest l).length) : digB l = false := by
 unfold digB;have : ((rest l).head? == some 48 && (neg l || decide (1 < (rest l).length))) = true := by
  rw [h]; rcases h2 with h2 | h2 <;> simp [h2]
 rw [this];simp
theorem all_take_succ {r : ByteArray} {k : Nat} (hk : k < r.size) (h : (r.data.toList.take k).all isDig = true) (h1 : 48 ≤ r[k].toNat) (h2 : r[k].toNat ≤ 57) : (r.data.toList.take (k + 1)).all isDig = true := by
 rw [List.take_succ_eq_append_getElem (by simpa using hk), List.all_append, h];simp only [List.all_cons, List.all_nil, Bool.and_true, Bool.true_and];exact isDig_iff.2 ⟨h1, h2⟩
theorem all_not {r : ByteArray} {k : Nat} (hk : k < r.size) (h : ¬ (48 ≤ r[k].toNat ∧ r[k].toNat ≤ 57)) : r.data.toList.all isDig = false := by
 rw [Bool.eq_false_iff];intro ha;have := List.all_eq_true.1 ha r[k] (by rw [Array.mem_toList_iff]; exact Array.getElem_mem _);exact h (isDig_iff.1 this)
theorem nonempty_words {r : ByteArray} (h : 0 < r.size) : r.toList.isEmpty = false ∧ ¬ r.toList = [] ∧ r.data.toList ≠ [] ∧ r.data.toList.head? = some r[0] := by
 have h1 : r.data.toList ≠ [] := fun e => by
  have : r.data.toList.length = 0 := by rw [e]; rfl
  rw [← Lib.size_eq] at this;omega
 refine ⟨?_, ?_, h1, ?_⟩
 ·rw [Lib.toList_data]; simpa using h1
 ·rw [Lib.toList_data]; exact h1
 ·rw [List.head?_eq_getElem?, List.getElem?_eq_getElem (by simpa using h)]
  rfl
theorem ret_bool {a b : Bool} (h : a = b) : Ending.returned (.bool a) = .returned (.bool b) := by rw [h]
theorem digits_any (s : ByteArray) (w : World) (h : s.size ≤ 9223372036854775807) :
    Calls Tryz.prog 171 #[.string s] w fun e w' => e = .returned (.bool (digB s.data.toList)) ∧ w = w' := by
  go_enter Tryz.func171, Tryz.ntmps171
  go_wp2_with fail
  refine (cut_dash s _ h).mono ?_
  rintro e w' ⟨r, ⟨rfl, hr⟩, rfl⟩
  have hsz : r.size ≤ 9223372036854775807 := by
    have h1 : r.data.toList.length ≤ s.data.toList.length := by rw [hr]; unfold rest; split <;> simp
    simp at h1
    have e1 : s.size = s.data.size := rfl
    have e2 : r.size = r.data.size := rfl
    omega
  have HR := Hd hr
  clear hr
  generalize hn : neg s.data.toList = n
  have HN := Hd hn
  clear hn
  rcases Nat.eq_zero_or_pos r.size with hz | hp
  · obtain rfl : r = ⟨#[]⟩ := by
      have : r.data = #[] := Array.eq_empty_of_size_eq_zero hz
      cases r; simp_all
    clear hz
    have he : (⟨#[]⟩ : ByteArray).toList = [] := by rw [Lib.toList_data]
    go_wp2
    go_ret
    exact ⟨ret_bool (digB_empty HR.out.symm).symm, rfl⟩
  · obtain ⟨he, hne, hd, hh⟩ := nonempty_words hp
    have HD := Hd hd
    have HH := Hd hh
    clear hd hh
    go_wp2
    · have h48 : (r[0].toNat : Int) = 48 := by assumption
      have hn : n = true := by assumption
      go_ret
      refine ⟨ret_bool ?_, rfl⟩
      have h0 : r[0] = 48 := UInt8.toNat.inj (by have : (48 : UInt8).toNat = 48 := rfl; omega)
      exact (digB_zero (by rw [← HR.out, HH.out, h0]) (.inl (by rw [HN.out, hn]))).symm
    · have h48 : (r[0].toNat : Int) = 48 := by assumption
      have hl : (1 : Int) < r.size := by assumption
      go_ret
      refine ⟨ret_bool ?_, rfl⟩
      have h0 : r[0] = 48 := UInt8.toNat.inj (by have : (48 : UInt8).toNat = 48 := rfl; omega)
      exact (digB_zero (by rw [← HR.out, HH.out, h0]) (.inr (by rw [← HR.out, ← Lib.size_eq]; omega))).symm
    all_goals
      have HB : Hid (digB s.data.toList = r.data.toList.all isDig) := by
        refine digB_of HR.out HN.out.symm HD.out ?_
        rintro ⟨h1, h2⟩
        rw [HH.out] at h1
        first
          | (have h48 : ¬ (r[0].toNat : Int) = 48 := by assumption
             simp only [Option.some.injEq] at h1
             rw [h1] at h48
             exact h48 rfl)
          | (have hl : (r.size : Int) ≤ 1 := by assumption
             have hn : ¬ n = true := by assumption
             rw [← Lib.size_eq] at h2
             rcases h2 with h2 | h2
             · exact hn h2
             · omega)
      go_loop [28] (fun j => ∃ k : Nat, k ≤ r.size ∧ j = .int .i64 k ∧ (r.data.toList.take k).all isDig = true) (fun j => r.size - (intOf j).toNat)
      case atStart => exact ⟨0, Nat.zero_le _, rfl, rfl⟩
      case round =>
        obtain ⟨k, hk, rfl, hall⟩ := hrel
        have HA := Hd hall
        clear hall
        by_cases hlt : k < r.size
        · by_cases hd1 : (r[k].toNat : Int) < 48
          · go_wp2
            go_ret
            exact ⟨ret_bool (by rw [HB.out]; exact (all_not hlt (by omega)).symm), rfl⟩
          · by_cases hd2 : (57 : Int) < r[k].toNat
            · go_wp2
              go_ret
              exact ⟨ret_bool (by rw [HB.out]; exact (all_not hlt (by omega)).symm), rfl⟩
            · have HS := Hd (all_take_succ hlt HA.out (by omega) (by omega))
              go_wp2
              go_round
              case rel => exact ⟨k + 1, by omega, by go_num, HS.out⟩
              case measure => simp [intOf]; omega
        · go_wp2
          go_ret
          refine ⟨ret_bool ?_, rfl⟩
          rw [HB.out, ← HA.out, List.take_of_length_le (by rw [← Lib.size_eq]; omega)]
end Go.Proofs.YtjfbeeogiejopaaGreatDoor
