/- Parts. -/
import Derived.Test.YtojlaphklkomfaaDoorPairMakesCardK39
set_option maxRecDepth 10000
set_option maxHeartbeats 16000000
set_option linter.unusedVariables false
set_option linter.unusedSimpArgs false
namespace Go.Proofs.YtojlaphklkomfaaDoor
open Go.RowKit
open Go.Lib hiding intOf
attribute [local go_sem ↓] Go.wp_at_zero Go.wp_at_succ
theorem wput_any (gw : Nat) (m : Mk) (VL VN VK VI VO : Value) (xs : List PtA) (a : Ev6) (w0 w : World) (h : WAt w w0.heap.size gw m.ps VL VN VK VI VO xs) (hO : Only [] w0 w) (hB : MkB m) (hI : MInv m) (hs : a.s.size ≤ 65537) (hy : a.y.size ≤ 65537) :
  Calls Tryd.prog 27 #[.pointer (some ⟨gw, 0, none⟩), .agg #[.int .i64 a.k, .string a.s, .string a.y, .int .i64 a.vk, .int .i64 a.vn, .int .i64 a.ln]] w (PutEnd w0 gw m a) := by
 cases hev : evOk a.k a.s a.y a.vk a.vn with
 | false => exact wput_bad gw m VL VN VK VI VO xs a w0 w h hO hs hy hev
 | true =>
  have hk := ev_kind hev
  cases ho : openI m.ps a.s with
  | none =>
   by_cases hk1 : a.k = 1
   ·exact wput_begin gw m VL VN VK VI VO xs a w0 w h hO hB hI hs hy hev ho hk1
   ·exact wput_no gw m VL VN VK VI VO xs a w0 w h hO hB hs hy hev (.inl ⟨hk1, ho⟩)
  | some i =>
   by_cases hk1 : a.k = 1
   ·exact wput_no gw m VL VN VK VI VO xs a w0 w h hO hB hs hy hev (.inr ⟨hk1, i, ho⟩)
   ·obtain ⟨p, hp, -, -⟩ := open_some ho
    by_cases hk2 : a.k = 2 ∨ a.k = 3
    ·exact wput_add gw m VL VN VK VI VO xs a w0 w i p h hO hB hI hs hy hev ho hp hk2
    ·exact wput_end gw m VL VN VK VI VO xs a w0 w i p h hO hB hs hy hev ho hp (by omega)
theorem wat_0 (w : World) : WAt (w.alloc (.cells #[.slice none 0 0, .slice none 0 0, .slice none 0 0, .slice none 0 0, .slice none 0 0, .slice none 0 0, .slice none 0 0] 56)) w.heap.size w.heap.size [] (.slice none 0 0) (.slice none 0 0) (.slice none 0 0) (.slice none 0 0) (.slice none 0 0) [] := by
 refine ⟨Blk.made w _ _, Nat.le_refl _, rfl, ?_⟩;have h0 : ORs (w.alloc (.cells #[.slice none 0 0, .slice none 0 0, .slice none 0 0, .slice none 0 0, .slice none 0 0, .slice none 0 0, .slice none 0 0] 56)) w.heap.size [] := ⟨fun i r h => by simp at h, fun i j r s h => by simp at h⟩;have n0 : ∀ (e : TypeId) (sz : Nat), OR.ok (w.alloc (.cells #[.slice none 0 0, .slice none 0 0, .slice none 0 0, .slice none 0 0, .slice none 0 0, .slice none 0 0, .slice none 0 0] 56)) w.heap.size ⟨e, sz, .slice none 0 0, 0, []⟩ := fun e sz => ⟨by simp, .inl ⟨rfl, rfl⟩⟩;exact ((((h0.push (n0 38 3) rfl).push (n0 9 1) rfl).push (n0 24 1) rfl).push (n0 3 1) rfl).push (n0 4 1) rfl
def PutAll (l : List Ev6) (w : World) (e : Ending) (w' : World) : Prop :=
 ∃ gw ps VL VN VK VI VO xs, e = .returned (.tuple #[.pointer (some ⟨gw, 0, none⟩), .int .i64 (runM mk0 l).2.1, .int .i64 (runM mk0 l).2.2]) ∧ Only [] w w' ∧ WAt w' w.heap.size gw ps VL VN VK VI VO xs ∧ ps.length ≤ 40 ∧
  ((runM mk0 l).2.2 = 0 → ps = (runM mk0 l).1.ps ∧ MkB (runM mk0 l).1 ∧ MInv (runM mk0 l).1)
theorem takeM_len (m : Mk) (a : Ev6) (h : MkB m) : (takeM m a).ps.length ≤ 40 := by
 have := h.np;unfold takeM
 split
 ·exact this
 ·cases ho : openI m.ps a.s with
  | none =>
   dsimp only
   split
   ·unfold beginM
    split
    ·exact this
    ·rename_i hc
     simp;omega
   ·exact this
  | some i =>
   dsimp only
   split
   ·exact this
   ·cases hp : m.ps[i]? with
    | none => exact this
    | some p =>
     dsimp only
     split
     ·unfold addM
      split
      ·exact this
      ·simp; exact this
     ·simp; exact this
set_option maxRecDepth 100000 in
theorem rput_any (A : Option Addr) (n c : Nat) (l : List Ev6) (w : World) (hn : l.length = n) (hnm : n ≤ 100000) (hA : Row w w.heap.size A (logC l)) (hz : ∀ x ∈ l, x.s.size ≤ 65537 ∧ x.y.size ≤ 65537) :
  Calls Tryd.prog 17 #[.slice A n c] w (PutAll l w) := by
 have HN := Hd hn;have HROW := Hd hA;have HZ := Hd hz;have HM1 := Hd (wat_0 w);have HO1 := Hd ((Only.refl [] w).alloc (.cells #[.slice none 0 0, .slice none 0 0, .slice none 0 0, .slice none 0 0, .slice none 0 0, .slice none 0 0, .slice none 0 0] 56));clear hn hA hz;go_enter Tryd.func17, Tryd.ntmps17;go_wp2_with fail
 generalize (w.alloc (.cells #[.slice none 0 0, .slice none 0 0, .slice none 0 0, .slice none 0 0, .slice none 0 0, .slice none 0 0, .slice none 0 0] 56)) = w1 at *;obtain ⟨gw, hgw⟩ : ∃ gw, gw = w.heap.size := ⟨_, rfl⟩;rw [← hgw];have HGW := Hd hgw;clear hgw
 go_loopw [6] (fun iv wr => ∃ (k : Nat) (m : Mk) (VL VN VK VI VO : Value) (xs : List PtA), iv = .int .i64 k ∧ k ≤ n ∧ Hid (runM mk0 l = runM m (l.drop k)) ∧ Hid (WAt wr w.heap.size gw m.ps VL VN VK VI VO xs) ∧ Hid (MkB m) ∧ Hid (MInv m) ∧ Hid (Only [] w wr)) (fun iv _ => n - (intOf iv).toNat)
 case atStart => exact ⟨0, mk0, _, _, _, _, _, _, rfl, by omega, Hd (by rw [List.drop_zero]), Hd (by rw [HGW.out]; exact HM1.out), Hd mkb_0, Hd minv_0, HO1⟩
 case round =>
  obtain ⟨k, m, VL, VN, VK, VI, VO, xs, rfl, hk, hR, hM, hB, hI, hO⟩ := hrel;clear HM1 HO1
  by_cases hlt : k < n
  ·have h01 : (k : Int) < (n : Int) := by omega
   have hk0 : (0 : Int) ≤ (k : Int) := Int.natCast_nonneg _;have hwk : IntKind.i64.wrap ((k : Int) + 1) = (k : Int) + 1 := IntWalk.i64_in _ (by omega);obtain ⟨x, hx⟩ : ∃ x, l[k]? = some x := ⟨_, List.getElem?_eq_getElem (by rw [HN.out]; exact hlt)⟩;have hzx := HZ.out x (List.mem_of_getElem? hx);have HDR := Hd (drop_at hx);obtain ⟨b', off, rfl, -, hbw, h1⟩ := row_ev HROW.out hx;have HEV := Hd h1;obtain ⟨a0, a1, a2, a3, a4, a5⟩ := h1.only hO.out hbw (by simp);have hbr : b' < wr.heap.size := by have := hO.out.size; omega
   have HTK := Hd (wput_any gw m VL VN VK VI VO xs x w wr hM.out hO.out hB.out hI.out hzx.1 hzx.2);clear hx h1
   by_cases he : takeE m x = 0
   ·have HE := Hd he;clear he;go_wp2_with fail
    refine (HTK.out).mono ?_;rintro e w3 ⟨rfl, o3, VL', VN', VK', VI', VO', xs', hm3⟩;rw [HE.out];have HO3 := Hd o3;have HM3 := Hd hm3;have HR3 : Hid (runM mk0 l = runM (takeM m x) (l.drop (k + 1))) := Hd (by rw [hR.out, HDR.out, run_step HE.out]);have HB3 := Hd (mkb_take hB.out hzx.1 hzx.2 HE.out);have HI3 := Hd (minv_take hI.out x);clear o3 hm3 a0 a1 a2 a3 a4 a5;go_wp2
    go_roundw
    case rel => exact ⟨k + 1, takeM m x, VL', VN', VK', VI', VO', xs', by go_num, by omega, HR3, HM3, HB3, HI3, HO3⟩
    case measure => simp [intOf]; omega
   ·have HE := Hd he;have hne : (takeE m x != 0) = true := by simpa using he
    have HRR : Hid (runM mk0 l = (m, x.ln, takeE m x)) := Hd (by rw [hR.out, HDR.out, run_stop he]);have HLN := Hd (takeM_len m x hB.out);generalize htt : takeE m x = tt at *;clear he;go_wp2_with fail
    refine (HTK.out).mono ?_;rintro e w3 ⟨rfl, o3, VL', VN', VK', VI', VO', xs', hm3⟩;have HO3 := Hd o3;have HM3 := Hd hm3;rw [htt];obtain ⟨-, -, -, -, -, a5'⟩ := HEV.out.only o3 hbw (by simp);have hb3 : b' < w3.heap.size := by have := o3.size; omega
    clear a0 a1 a2 a3 a4 a5 o3 hm3 htt;go_wp2_with fail
    go_quiet (fail)
    have HO4 := Hd (HO3.out.drewN nq);have HM4 := Hd (HM3.out.same ((Only.refl [] w3).drewN nq));generalize w3.drewN nq = w4 at *;go_wp2
    go_ret3
    unfold PutAll;refine ⟨gw, _, VL', VN', VK', VI', VO', xs', by rw [HRR.out]; rfl, HO4.out, HM4.out, HLN.out, fun h => ?_⟩;rw [HRR.out] at h;exact absurd h HE.out
  ·have hkn : k = n := by omega
   subst hkn;have hd : decide ((k : Int) < (k : Int)) = false := by simp
   have HRR : Hid (runM mk0 l = (m, 0, 0)) := Hd (by rw [hR.out, List.drop_of_length_le (by rw [HN.out]; exact Nat.le_refl _)]; rfl);go_wp2
   go_ret3
   unfold PutAll;exact ⟨gw, _, VL, VN, VK, VI, VO, xs, by rw [HRR.out]; rfl, hO.out, hM.out, hB.out.np, fun _ => by rw [HRR.out]; exact ⟨rfl, hB.out, hI.out⟩⟩
end Go.Proofs.YtojlaphklkomfaaDoor
