/- Parts. -/
import Derived.Test.YtlnlppabeddclaaDoorLaw23AllK29
set_option maxRecDepth 10000
set_option maxHeartbeats 16000000
set_option linter.unusedVariables false
set_option linter.unusedSimpArgs false
namespace Go.Proofs.YtlnlppabeddclaaDoor
open Go.RowKit
attribute [local go_sem ↓] Go.wp_at_zero Go.wp_at_succ
theorem rleastr23_any (n : Nat) (A : Option Addr) (m c : Nat) (l : List (Int × Int)) (w : World) (hn : n ≤ 500) (hr : Row w w.heap.size A (edgeC l)) (hl : l.length = m) (hm : m ≤ 1000) :
  Calls Tryd.prog 11 #[.int .i64 (n : Int), .slice A m c] w fun e w' => ∃ A' c', (e = .returned (.slice A' ((ringL (edB l) n).getD []).length c') ∧ Row w' w'.heap.size A' (intsQ ((ringL (edB l) n).getD []))) ∧ Only [] w w' := by
 have HON := Hd (fun (M d a c1 : Nat) (A1 : Option Addr) (W : World) (O : Only [] w W) (hM : M ≤ 500) (hd : 1 + d = M) (ha : a < n) (h1 : Row W W.heap.size A1 [.int .i64 (a : Int)]) => ron_any n A m c M l hn hM hl hm d [a] A1 c1 W hd (by simp) (fun y hy => by rw [List.mem_singleton.1 hy]; exact ha) (row_up (hr.only O (by simp))) h1);obtain ⟨R, hR⟩ : ∃ R, R = ringL (edB l) n := ⟨_, rfl⟩;rw [← hR];obtain ⟨G, hG⟩ : ∃ G : Nat → Nat → Option (List Nat), G = fun M a => onT (edB l) n M [a] := ⟨_, rfl⟩;have HRS : Hid (R = (List.range n).findSome? fun M => (List.range n).findSome? (G M)) := Hd (by rw [hR, ringL, hG]);have HG : Hid (∀ M a, onT (edB l) n M [a] = G M a) := Hd (fun M a => by rw [hG]);have HGP : Hid (∀ M a r, G M a = some r → 0 < r.length) := Hd (fun M a r h => by rw [hG] at h; exact onT_pos M h (by simp));clear hR hG hr hl;go_enter Tryd.func11, Tryd.ntmps11;go_wp2_with fail
 go_loopw [5] (fun Mv wr => ∃ M : Nat, Mv = .int .i64 ((M : Int) + 1) ∧ M ≤ n ∧ Hid (∀ j, j < M → (List.range n).findSome? (G j) = none) ∧ Hid (Only [] w wr)) (fun Mv _ => n + 1 - (intOf Mv).toNat)
 case atStart => exact ⟨0, rfl, by omega, Hd (fun j hj => by omega), Hd (Only.refl _ _)⟩
 case round =>
  obtain ⟨M, rfl, hMn, hno, hO⟩ := hrel
  by_cases hlt : M < n
  ·have h01 : (M : Int) + 1 ≤ (n : Int) := by omega
   have hM0 : (0 : Int) ≤ (M : Int) := Int.natCast_nonneg _;have hwM : IntKind.i64.wrap ((M : Int) + 1 + 1) = (M : Int) + 1 + 1 := IntWalk.i64_in _ (by omega);obtain ⟨wo, hwo⟩ : ∃ wo : World, wo = wr := ⟨_, rfl⟩;subst hwo;go_wp2_with fail
   go_loopw [6] (fun av wr => ∃ a : Nat, av = .int .i64 (a : Int) ∧ a ≤ n ∧ Hid (∀ j, j < a → G M j = none) ∧ Hid (Only [] w wr)) (fun av _ => n - (intOf av).toNat)
   case atStart => exact ⟨0, rfl, by omega, Hd (fun j hj => by omega), hO⟩
   case round =>
    obtain ⟨a, rfl, han, hna, hOa⟩ := hrel
    by_cases hla : a < n
    ·have h02 : (a : Int) < (n : Int) := by omega
     have ha0 : (0 : Int) ≤ (a : Int) := Int.natCast_nonneg _;have hwa : IntKind.i64.wrap ((a : Int) + 1) = (a : Int) + 1 := IntWalk.i64_in _ (by omega);have OA : Only [] wr (wr.alloc (.cells #[.int .i64 (a : Int)] 3)) := (Only.refl [] wr).alloc _;have HC := HON.out (M + 1) M a 1 (some ⟨wr.heap.size, 0, none⟩) (wr.alloc (.cells #[.int .i64 (a : Int)] 3)) (hOa.out.trans OA) (by omega) (by omega) hla (by rw [World.size_alloc]; exact row_lit wr 3 #[.int .i64 (a : Int)]);rw [HG.out] at HC;have hcast : ((M + 1 : Nat) : Int) = (M : Int) + 1 := by omega
     rw [hcast] at HC;have HCH := Hd HC;have HOB := Hd (hOa.out.trans OA);have HNA : Hid (G M a = none → ∀ j, j < a + 1 → G M j = none) := Hd (fun h j hj => by
      rcases Nat.lt_or_ge j a with h1 | h1
      ·exact hna.out j h1
      ·obtain rfl : j = a := by omega
       exact h)
     have HRR : Hid (∀ r, G M a = some r → R = some r) := Hd (fun r h => by rw [HRS.out]; exact findSome_range hlt hno.out (findSome_range hla hna.out h));have HPP := Hd (HGP.out M a);obtain ⟨fb, hfb⟩ : ∃ fb, fb = G M a := ⟨_, rfl⟩;rw [← hfb] at HCH HNA HRR HPP;clear HC OA hfb hOa;go_wp2_with fail
     refine (HCH.out).mono ?_;rintro e w8 ⟨A8, c8, ⟨rfl, hr8⟩, O8⟩;have HO8 := Hd (HOB.out.trans O8);have HR8 := Hd hr8;clear hr8 O8 HCH HOB
     cases fb with
     | none =>
      have HNN := Hd (HNA.out rfl);simp only [Option.getD_none, List.length_nil];go_wp2
      go_roundw
      case rel => exact ⟨a + 1, by go_num, by omega, HNN, HO8⟩
      case measure => simp [intOf]; omega
     | some r =>
      simp only [Option.getD_some] at HR8 ⊢;have HR9 := Hd (HRR.out r rfl);have hrp : 0 < r.length := HPP.out r rfl;have hrp2 : (0 : Int) < (r.length : Int) := by omega
      go_wp2
      go_ret
      rw [HR9.out];exact ⟨_, _, ⟨rfl, HR8.out⟩, HO8.out⟩
    ·have han2 : a = n := by omega
     subst han2;have hd2 : decide ((a : Int) < (a : Int)) = false := by simp
     have HNO : Hid (∀ j, j < M + 1 → (List.range a).findSome? (G j) = none) := Hd (fun j hj => by
      rcases Nat.lt_or_ge j M with h1 | h1
      ·exact hno.out j h1
      ·obtain rfl : j = M := by omega
       exact findSome_none fun i hi => hna.out i (List.mem_range.1 hi))
     go_wp2
     go_roundw
     case rel => exact ⟨M + 1, by go_num, by omega, HNO, hOa⟩
     case measure => simp [intOf]; omega
  ·have hMn2 : M = n := by omega
   subst hMn2;have hd2 : decide ((M : Int) + 1 ≤ (M : Int)) = false := by simp; omega
   have HE : Hid (R = none) := Hd (by rw [HRS.out]; exact findSome_none fun j hj => hno.out j (List.mem_range.1 hj));go_wp2
   go_ret
   rw [HE.out];exact ⟨none, 0, ⟨rfl, .nil⟩, hO.out⟩
end Go.Proofs.YtlnlppabeddclaaDoor
namespace Go.Proofs.YtlnlppabeddclaaDoor
open Go.RowKit
section
variable {P : Program} {ops : Array Oper} {Q : Exit → Act → World → Prop} {md : Region.Mode} {S : Array Bool → World → Prop}
theorem timed_forks {l : List Nat} {fuel : Nat} {listed : Array Bool} {a : Act} {w : World} (hr : Region.ready md ops listed = l) (hl : l ≠ [])
  (h : ∀ k ∈ l, ∃ ok, ops[k]? = some ok ∧ ∀ K' : Act → World → Prop, Shut (∀ a w, S (listed.setIfInBounds k true) w → (S (listed.setIfInBounds k true) w → wpAnyT P md ops Q S fuel (listed.setIfInBounds k true) a w) → K' a w) →
   if Region.wanted ok (yielded ops a.tmps) = true then Oper.wp P ok a w K' Q else K' (a.put ok.dst undef) w) : S listed w → wpAnyT P md ops Q S (fuel + 1) listed a w := by
 intro _;refine ⟨fun h0 => (by rw [hr] at h0; exact absurd h0 hl), fun k hk => ?_⟩;rw [hr] at hk;obtain ⟨ok, ho, hs⟩ := h k hk;exact wpOp_step ho (fun K' hK => hs K' (fun a w hS hW => hK a w ⟨hS, hW hS⟩))
end
section
variable {G : Prop}
theorem cut_1_0 (F : World → Nat → Prop) {L : World → Nat → Prop} (h1 : (∀ (w : World) (g0 : Nat), F w g0  → L w g0 ) → G) (h2 : ∀ (w : World) (g0 : Nat), F w g0  → L w g0 ) : G := h1 h2
theorem cut_2_0 (F : World → Nat → Nat → Prop) {L : World → Nat → Nat → Prop} (h1 : (∀ (w : World) (g0 g1 : Nat), F w g0 g1  → L w g0 g1 ) → G) (h2 : ∀ (w : World) (g0 g1 : Nat), F w g0 g1  → L w g0 g1 ) : G := h1 h2
end
theorem fork_cons {p : Nat → Prop} {k : Nat} {l : List Nat} (h : p k) (r : ∀ j ∈ l, p j) : ∀ j ∈ k :: l, p j := List.forall_mem_cons.2 ⟨h, r⟩
theorem fork_nil {p : Nat → Prop} : ∀ j ∈ ([] : List Nat), p j := fun _ h => by cases h
theorem made_go {w0 w : World} (T : TypeId) (cs : Array Value) (OW : Only [] w0 w) :
  Only [] w (w.alloc (.cells cs T)) ∧ Only [] w0 (w.alloc (.cells cs T)) ∧ Blk (w.alloc (.cells cs T)) w.heap.size T cs ∧ w0.heap.size ≤ w.heap.size :=
 have OS : Only [] w (w.alloc (.cells cs T)) := (Only.refl [] w).alloc (.cells cs T)
 ⟨OS, OW.trans OS, Blk.made w T cs, OW.size⟩
end Go.Proofs.YtlnlppabeddclaaDoor
