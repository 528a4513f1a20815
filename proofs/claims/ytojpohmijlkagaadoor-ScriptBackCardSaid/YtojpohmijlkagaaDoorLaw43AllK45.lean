/- Parts. -/
import Derived.Test.YtojpohmijlkagaaDoorLaw43AllK23
import Derived.Test.YtojpohmijlkagaaDoorLaw43AllK44
import Derived.Test.YtojpohmijlkagaaDoorLaw43AllK31
import Derived.Test.YtojpohmijlkagaaDoorLaw43AllK25
set_option maxRecDepth 10000
set_option maxHeartbeats 16000000
set_option linter.unusedVariables false
set_option linter.unusedSimpArgs false
namespace Go.Proofs.YtojpohmijlkagaaDoor
open Go.RowKit
open Go.Lib hiding intOf
attribute [local go_sem ↓] Go.wp_at_zero Go.wp_at_succ
theorem info_str43 : (Tryd.prog.info? 9).map (fun i => (i.zero, i.size, i.bytes)) = some (some (.string ⟨#[]⟩), 1, 16) := by kernel_rfl
theorem textC_snoc (l : List Cmd) (x : Cmd) : textC (l ++ [x]) = textC l ++ (lineC x ++ [10]) := by simp [textC]
theorem textC_take {l : List Cmd} {k : Nat} {x : Cmd} (h : l[k]? = some x) : textC (l.take (k + 1)) = textC (l.take k) ++ (lineC x ++ [10]) := by
 rw [List.take_add_one, h];exact textC_snoc _ _
theorem len_lvl (n : Int) : (lvlT n).size ≤ 10 := by
 unfold lvlT
 by_cases h : 1 ≤ n ∧ n ≤ 3
 ·rw [if_pos h];have : n = 1 ∨ n = 2 ∨ n = 3 := by omega
  rcases this with rfl | rfl | rfl <;> decide
 ·rw [if_neg h]
  decide
theorem len_pol (n : Int) : (polT n).size ≤ 10 := by
 unfold polT
 by_cases h : 1 ≤ n ∧ n ≤ 2
 ·rw [if_pos h];have : n = 1 ∨ n = 2 := by omega
  rcases this with rfl | rfl <;> decide
 ·rw [if_neg h]
  decide
theorem len_kw {k : Nat} : (kwL.getD k ⟨#[]⟩).size ≤ 10 := by
 by_cases h : k < 10
 ·have : ∀ k : Fin 10, (kwL.getD k.val ⟨#[]⟩).size ≤ 10 := by decide +kernel
  exact this ⟨k, h⟩
 ·rw [List.getD_eq_getElem?_getD, List.getElem?_eq_none (show kwL.length ≤ k by show 10 ≤ k; omega)]
  decide
theorem len_shown {k n : Int} (h1 : -9223372036854775808 ≤ n) (h2 : n ≤ 9223372036854775807) : (shownT k n).length ≤ 1 ∧ ∀ x ∈ shownT k n, x.size ≤ 21 := by
 unfold shownT;have hi := Lib.itoa_length_le n h1 h2
 by_cases e1 : k = 1
 ·rw [if_pos e1];exact ⟨by simp, fun x hx => by rw [List.mem_singleton] at hx; subst hx; have := len_lvl n; omega⟩
 ·rw [if_neg e1]
  by_cases e2 : k = 2
  ·rw [if_pos e2];exact ⟨by simp, fun x hx => by rw [List.mem_singleton] at hx; subst hx; have := len_pol n; omega⟩
  ·rw [if_neg e2]
   by_cases e3 : k = 3
   ·rw [if_pos e3];exact ⟨by simp, fun x hx => by rw [List.mem_singleton] at hx; subst hx; simpa [ByteArray.size] using hi⟩
   ·rw [if_neg e3];exact ⟨by simp, fun x hx => by cases hx⟩
theorem line_len {x : Cmd} (h : mayC x = true) (h1 : -9223372036854775808 ≤ x.n) (h2 : x.n ≤ 9223372036854775807) : (lineC x).length ≤ 40 := by
 unfold lineC;rw [shownT_words h];obtain ⟨g1, g2⟩ := len_shown (k := x.kind) h1 h2;have g3 : (kwL.getD (x.kind - 1).toNat ⟨#[]⟩).size ≤ 10 := len_kw;generalize kwL.getD (x.kind - 1).toNat ⟨#[]⟩ = a at *
 match shownT x.kind x.n, g1, g2 with
 | [], _, _ =>
  show (Lib.join [by_ a] [32]).length ≤ 40
  rw [Lib.join_one, by_length];omega
 | [b], _, g2 =>
  have := g2 b (List.mem_singleton.2 rfl)
  show (Lib.join [by_ a, by_ b] [32]).length ≤ 40
  rw [Lib.join_cons, List.length_append, by_length];simp [Lib.joinTail, by_length];omega
theorem text_len : ∀ {l : List Cmd}, l.all mayC = true → (∀ x ∈ l, -9223372036854775808 ≤ x.n ∧ x.n ≤ 9223372036854775807) → (textC l).length ≤ l.length * 41
 | [], _, _ => by simp [textC]
 | x :: r, h, hb => by
  rw [List.all_cons, Bool.and_eq_true] at h;have h1 := line_len h.1 (hb x List.mem_cons_self).1 (hb x List.mem_cons_self).2;have h2 := text_len h.2 (fun y hy => hb y (List.mem_cons_of_mem _ hy));have e : textC (x :: r) = (lineC x ++ [10]) ++ textC r := by simp [textC]
  rw [e, List.length_append, List.length_append, List.length_cons];simp;omega
set_option maxRecDepth 100000 in
theorem sprint43_any (A : Option Addr) (n c B : Nat) (l : List Cmd) (w : World) (hS : Scrs w) (hg : Row w B A (cmdC l)) (hn : l.length = n) (hM : n ≤ 1000) (hb : ∀ x ∈ l, -9223372036854775808 ≤ x.n ∧ x.n ≤ 9223372036854775807) :
  Calls Tryd.prog 12 #[.slice A n c] w fun e w' => e = .returned (.tuple #[.string (printC l).1, .int .i64 (printC l).2]) ∧ Only [] w w' := by
 obtain ⟨i0, hi, hz0, hz1, hz2⟩ := info_parts info_str43;have HMY := Hd (fun (r k m : Int) w' (hO : Only [] w w') => smay_any r k m w' (hS.only hO));have HSH := Hd (fun (r k m : Int) w' (hO : Only [] w w') h1 h2 => shown_any r k m w' (hS.only hO) h1 h2);have HSC := Hd hS;obtain ⟨r, hr⟩ : ∃ r, r = printC l := ⟨_, rfl⟩;rw [← hr];have HR := Hd hr;have HN := Hd hn;have HB := Hd hb;have HROW := Hd hg;clear hn hb hg hr hS
 by_cases hlong : 200 < n
 ·obtain rfl : r = (⟨#[]⟩, 7) := by rw [HR.out]; unfold printC; rw [if_pos (by rw [HN.out]; exact hlong)]
  have hl1 : (200 : Int) < (n : Int) := by omega
  clear HR HMY HSH HROW;go_enter Tryd.func12, Tryd.ntmps12;go_wp2
  go_ret2
  exact ⟨rfl, Only.refl _ _⟩
 have hl1 : decide ((200 : Int) < (n : Int)) = false := decide_eq_false (by omega);have hl2 : decide (200 < n) = false := decide_eq_false hlong;have HRR : Hid (r = if l.all mayC = true then (⟨(textC l).toArray⟩, 0) else (⟨#[]⟩, 4)) := Hd (by rw [HR.out]; unfold printC; rw [if_neg (by rw [HN.out]; exact hlong)]);clear HR;have HOB := Hd ((Only.refl [] w).alloc (.cells #[.pointer none, .slice none 0 0] 66));have HBU := Hd (Lib.fresh_isBuilder 66 5 w);have HB0 := Hd (Blk.made w 66 #[.pointer none, .slice none 0 0]);obtain ⟨Bb, hBb⟩ : ∃ g, g = w.heap.size := ⟨_, rfl⟩;rw [← hBb] at HBU HB0;have HBB := Hd hBb;go_enter Tryd.func12, Tryd.ntmps12;go_wp2_with fail
 rw [← hBb];clear hBb
 go_loopw [12] (fun iv wr => ∃ (k : Nat), iv = .int .i64 k ∧ k ≤ n ∧ Hid ((l.take k).all mayC = true) ∧ Hid (Lib.IsBuilder 66 5 Bb Bb (Lib.byteCells (textC (l.take k))) wr) ∧ Hid (Only [] w wr) ∧ Hid (k = 0 → Blk wr Bb 66 #[.pointer none, .slice none 0 0])) (fun iv _ => n - (intOf iv).toNat)
 case atStart => exact ⟨0, rfl, by omega, Hd rfl, HBU, HOB, Hd (fun _ => HB0.out)⟩
 case round =>
  obtain ⟨k, rfl, hk, hall, hBU, hO, hNB⟩ := hrel;have hsz := hO.out.size
  by_cases hlt : k < n
  ·have h01 : (k : Int) < (n : Int) := by omega
   have hk0 : (0 : Int) ≤ (k : Int) := Int.natCast_nonneg _;have hwk : IntKind.i64.wrap ((k : Int) + 1) = (k : Int) + 1 := IntWalk.i64_in _ (by omega);obtain ⟨x, hx⟩ : ∃ x, l[k]? = some x := ⟨_, List.getElem?_eq_getElem (by rw [HN.out]; exact hlt)⟩;obtain ⟨b, off, rfl, -, hbw, a0, a1, a2⟩ := row_cmd (HROW.out.only hO.out (by simp)) hx;have HX := Hd hx;have HXB := Hd (HB.out x (List.mem_of_getElem? hx));have HTK : Hid (textC (l.take (k + 1)) = textC (l.take k) ++ (lineC x ++ [10])) := Hd (textC_take hx);have HTA : Hid ((l.take (k + 1)).all mayC = ((l.take k).all mayC && mayC x)) := Hd (by rw [List.take_add_one, hx, List.all_append]; simp);obtain ⟨ok, hok⟩ : ∃ v, v = mayC x := ⟨_, rfl⟩;have HOK := Hd hok;have HTL : Hid ((textC (l.take k)).length ≤ 8200) := Hd (by
    have h1 := text_len (l := l.take k) hall.out (fun y hy => HB.out y (List.mem_of_mem_take hy));rw [List.length_take] at h1;omega)
   obtain ⟨xr, xk, xn⟩ := x;dsimp only at a0 a1 a2 HXB;have hmk : mayN xk xn = ok := hok.symm;clear hx hok;go_upto_region 7 with (fail)
   have HG := Hd (Blk.made wr 40 #[.int .i64 xr, .int .i64 xk, .int .i64 xn]);have O2 : Only [] wr (wr.alloc (.cells #[.int .i64 xr, .int .i64 xk, .int .i64 xn] 40)) := (Only.refl [] wr).alloc _;have HBU2 := Hd (builder_only hBU.out O2);have HO2 := Hd (hO.out.trans O2);have HNB2 : Hid (k = 0 → Blk (wr.alloc (.cells #[.int .i64 xr, .int .i64 xk, .int .i64 xn] 40)) Bb 66 #[.pointer none, .slice none 0 0]) := Hd (fun h => O2.blk (hNB.out h) (by simp));clear O2 a0 a1 a2 hBU hO hNB;generalize (wr.alloc (.cells #[.int .i64 xr, .int .i64 xk, .int .i64 xn] 40)) = w2 at *;generalize wr.heap.size = gc at *;have lB := HG.out.lt;have x0 := HG.out.at_ 0;have x1 := HG.out.at_ 1;have x2 := HG.out.at_ 2;simp at x0 x1 x2;have HM1 := Hd (HMY.out xr xk xn w2 HO2.out);rw [hmk] at HM1;clear hmk;go_wp2_with fail
   refine (HM1.out).mono ?_;rintro e w3 ⟨rfl, O3⟩;have HBU3 := Hd (builder_only HBU2.out O3);have HO3 := Hd (HO2.out.trans O3);have HG3 := Hd (O3.blk HG.out (by simp));clear O3 x0 x1 x2 HM1 HBU2 HO2 HG HNB2 lB
   cases ok with
   | false =>
    obtain rfl : r = (⟨#[]⟩, 4) := by
     rw [HRR.out, if_neg];intro h;have := List.all_eq_true.1 h _ (List.mem_of_getElem? HX.out);rw [← HOK.out] at this
     cases this
    go_wp2
    go_ret2
    exact ⟨rfl, HO3.out⟩
   | true =>
    have HMC := Hd HOK.out.symm;obtain ⟨kq1, kq2⟩ : 1 ≤ xk ∧ xk ≤ 10 := mayC_kind HMC.out;obtain ⟨q, rfl⟩ : ∃ q : Nat, xk = (q : Int) + 1 := ⟨(xk - 1).toNat, by omega⟩;have hq : q < 10 := by omega
    obtain ⟨kw, hkw⟩ : ∃ kw, kwL[q]? = some kw := ⟨_, List.getElem?_eq_getElem (show q < kwL.length from hq)⟩;have HWL : Hid (wordsC ⟨xr, (q : Int) + 1, xn⟩ = kw :: shownT ((q : Int) + 1) xn) := Hd (by
     rw [shownT_words HMC.out];dsimp only;rw [show ((q : Int) + 1 - 1).toNat = q by omega, List.getD_eq_getElem?_getD, hkw]
     rfl)
    have HC0 := Hd (fun w' (O : Only [] w w') => (HSC.out.only O).c0 q (.string kw) (by rw [strs, List.getElem?_map, hkw]; rfl));have HL0 := Hd (fun w' (O : Only [] w w') => (HSC.out.only O).l0);have HS1 := Hd (fun w' (O : Only [] w w') => HSH.out xr ((q : Int) + 1) xn w' O HXB.out.1 HXB.out.2);have HLN : Hid ((lineC ⟨xr, (q : Int) + 1, xn⟩).length ≤ 40) := Hd (line_len HMC.out HXB.out.1 HXB.out.2);have HJW : Hid (lineC ⟨xr, (q : Int) + 1, xn⟩ = joinW (kw :: shownT ((q : Int) + 1) xn)) := Hd (by unfold lineC; rw [HWL.out]);obtain ⟨hsl, -⟩ := len_shown (k := (q : Int) + 1) HXB.out.1 HXB.out.2;have hwq : IntKind.i64.wrap ((q : Int) + 1 - 1) = (q : Int) := by rw [IntWalk.i64_in _ (by omega)]; omega
    have hwq2 : IntKind.i64.wrap (q : Int) = (q : Int) := IntWalk.i64_in _ (by omega);have hq0 : (0 : Int) ≤ (q : Int) := Int.natCast_nonneg _;have hq10 : (q : Int) < 10 := by omega
    generalize hst : shownT ((q : Int) + 1) xn = st at *;have HLE : Hid (lineC ⟨xr, (q : Int) + 1, xn⟩ = joinW (kw :: st)) := HJW;have hjl : (joinW (kw :: st)).length ≤ 40 := by rw [← HLE.out]; exact HLN.out
    have hjs2 : ¬ (9223372036854775807 < (joinW (kw :: st)).length + 1) := by omega
    have hsB : Bb ≤ w3.heap.size := by have := HO3.out.size; have := HBB.out; omega
    have HTX : Hid (textC (l.take (k + 1)) = textC (l.take k) ++ (joinW (kw :: st) ++ [10])) := Hd (by rw [HTK.out, HLE.out]);have HAL : Hid ((l.take (k + 1)).all mayC = true) := Hd (by rw [HTA.out, hall.out, HMC.out]; rfl);clear hkw hst HSH HMY HTK HTA HOK HMC HWL HLN HJW HLE HX kq1 kq2 hall;generalize (textC (l.take k)) = acc at *;go_upto_region 9 with (fail)
    refine rg1 [11] [] w3 ?_;have OW : Only [] w3 w3.drew := (Only.refl [] w3).drew;generalize hwz : w3.drew = wz at *;clear hwz;refine tQ 0 (h := ?_);refine timed_readD (i := 1) (v := ?_) 0 rfl (by kernel_rfl) (by kernel_rfl) (by kernel_rfl) (fun _ _ _ h => h) (by kernel_rfl) (by kernel_rfl) rfl (by kernel_rfl) ?_ ?_;rotate_left
    ·(intro wq hSw; have OY := HO3.out.trans hSw; have hb_ := hSw.blk HG3.out (by simp); have lb_ := hb_.lt; have y0 := hb_.at_ 0; have y1 := hb_.at_ 1; have y2 := hb_.at_ 2; simp at y0 y1 y2; have c0_ := HC0.out wq OY; have l0_ := HL0.out wq OY; clear hb_ OY; clear hSw; go_simp; try with_reducible rfl)
    (try simp only [tdz]);refine tQ 2 (h := tQ 3 (h := ?_));refine timed_readD (i := 4) (v := ?_) 0 rfl (by kernel_rfl) (by kernel_rfl) (by kernel_rfl) (fun _ _ _ h => h) (by kernel_rfl) (by kernel_rfl) rfl (by kernel_rfl) ?_ ?_;rotate_left
    ·(intro wq hSw; have OY := HO3.out.trans hSw; have hb_ := hSw.blk HG3.out (by simp); have lb_ := hb_.lt; have y0 := hb_.at_ 0; have y1 := hb_.at_ 1; have y2 := hb_.at_ 2; simp at y0 y1 y2; have c0_ := HC0.out wq OY; have l0_ := HL0.out wq OY; clear hb_ OY; clear hSw; go_simp; try with_reducible rfl)
    (try simp only [tdz]);refine timed_readD (i := 6) (v := ?_) 0 rfl (by kernel_rfl) (by kernel_rfl) (by kernel_rfl) (fun _ _ _ h => h) (by kernel_rfl) (by kernel_rfl) rfl (by kernel_rfl) ?_ ?_;rotate_left
    ·(intro wq hSw; have OY := HO3.out.trans hSw; have hb_ := hSw.blk HG3.out (by simp); have lb_ := hb_.lt; have y0 := hb_.at_ 0; have y1 := hb_.at_ 1; have y2 := hb_.at_ 2; simp at y0 y1 y2; have c0_ := HC0.out wq OY; have l0_ := HL0.out wq OY; clear hb_ OY; clear hSw; go_simp; try with_reducible rfl)
    try simp only [tdz]
    apply cut_2_0_1 (fun w g5 c7 A7 => (Only [] w3 w) ∧ (Blk w g5 9 (#[.string kw])) ∧ (w3.heap.size ≤ g5) ∧ (Row w w.heap.size A7 (strs st)) ∧ (st.length ≤ c7))
    intro HST5_7
    apply cut_1_0_1 (fun w c7 A7 => (Only [] w3 w) ∧ (Row w w.heap.size A7 (strs st)) ∧ (st.length ≤ c7))
    intro HST7
    apply cut_1_0 (fun w g5 => (Only [] w3 w) ∧ (Blk w g5 9 (#[.string kw])) ∧ (w3.heap.size ≤ g5))
    intro HST5
    ·refine timed_forks (l := [5, 7]) (by kernel_rfl) (by simp) (fork_cons ⟨_, rfl, fun K hK => ?_⟩ (fork_cons ⟨_, rfl, fun K hK => ?_⟩ (fork_nil)))
     ·go_simp;obtain ⟨OS, OWn, BLn, hszn⟩ := made_go 9 (#[.string kw]) OW;generalize wz.alloc (.cells (#[.string kw]) 9) = wn at *;generalize wz.heap.size = g5 at *;refine kOut hK (OWn) (h := ?_);clear hK K;exact HST5 wn g5 ⟨OWn, BLn, hszn⟩
     ·go_simp;refine (HS1.out wz (HO3.out.trans OW)).mono ?_;rintro e w1 ⟨A7, c7, ⟨rfl, R7, L7, M7⟩, O7⟩;have OS := O7;have OWn := OW.trans OS;refine kOut hK (OWn) (h := ?_);clear hK K;exact HST7 w1 c7 A7 ⟨OWn, R7, L7⟩
    ·intro wz g5 ⟨OW, BL5, GE5⟩;refine tst (i := 7) fun K hK => ?_;go_simp;refine (HS1.out wz (HO3.out.trans OW)).mono ?_;rintro e w1 ⟨A7, c7, ⟨rfl, R7, L7, M7⟩, O7⟩;have OS := O7;have OWn := OW.trans OS;refine kOut hK (OWn) (h := ?_);clear hK K;exact HST5_7 w1 g5 c7 A7 ⟨OWn, OS.blk BL5 (by simp), GE5, R7, L7⟩
    ·intro wz c7 A7 ⟨OW, R7, L7⟩;refine tst (i := 5) fun K hK => ?_;go_simp;obtain ⟨OS, OWn, BLn, hszn⟩ := made_go 9 (#[.string kw]) OW;generalize wz.alloc (.cells (#[.string kw]) 9) = wn at *;generalize wz.heap.size = g5 at *;refine kOut hK (OWn) (h := ?_);clear hK K;exact HST5_7 wn g5 c7 A7 ⟨OWn, BLn, hszn, row_up (R7.only OS (by simp)), L7⟩
    -- behind all of the crowd
    intro wz g5 c7 A7 ⟨OW, BL5, GE5, R7, L7⟩;refine tst (i := 8) fun K hK => ?_;have OV0 : wz.ownsRow w3.heap.size 9 1 (.slice (some ⟨g5, 0, none⟩) 1 1) 1 [.string kw] := ⟨rfl, .inr ⟨g5, 1, #[.string kw], rfl, GE5, BL5, by omega, by unfold maxLen; omega, rfl, rfl⟩⟩;refine step_append_row _ rfl (.tmp 24) (.tmp 26) 47 rfl w3.heap.size 9 i0 _ 1 16 Tryd.underlying47 hi hz0 hz1 hz2 rfl (by omega) _ 1 [.string kw] (by rfl) OV0 _ _ st.length c7 (strs st) (by rfl) (by simp [strs]) R7 (by intro u hu; simp [strs] at hu; obtain ⟨_, _, rfl⟩ := hu; rfl) (by unfold maxLen; omega) (by omega) OW.size ?_;intro v8 w8 own8 grow8 _;obtain ⟨A8, c8, rfl, C8, -, -, R8⟩ := own_row own8;have OW8 := OW.step (only_grown grow8) (fun i hi hl => by have := (OV0.lt i (by simpa using hi)).1; omega);refine kOut hK (OW8) (h := ?_);clear hK K;refine tst (i := 9) fun K hK => ?_;go_simp;refine (join_any A8 (1 + st.length) c8 _ (kw :: st) w8 R8 (by simp; omega) C8 (by omega) (by omega)).mono ?_;rintro e w9 ⟨rfl, O9⟩;have OW9 := OW8.trans O9;have HBW := Hd (bwrite_any Bb Bb _ ((⟨(joinW (kw :: st)).toArray⟩ : ByteArray) ++ ⟨#[10]⟩) w9 (builder_only HBU3.out OW9) (by rw [Lib.byteCells_length, ByteArray.size_append]; have := HTL.out; show _ + ((joinW (kw :: st)).toArray.size + 1) ≤ _; simp; omega) (by have := OW9.size; omega));have hjs : ¬ (9223372036854775807 < ((⟨(joinW (kw :: st)).toArray⟩ : ByteArray)).size + 1) := by show ¬ (9223372036854775807 < (joinW (kw :: st)).toArray.size + 1); simp; omega
    refine kOut hK (OW9) (h := ?_);clear hK K;refine tQ 10 (h := ?_);refine tst (i := 11) fun K hK => ?_;go_simp;refine (HBW.out).mono ?_;rintro e w11 ⟨rfl, hb11, hbl11⟩;refine hK.out _ _ (timed_over (by kernel_rfl) (timed_nil)) ?_;clear hK K;(try simp only [tdz]);refine tdn ?_;have HO11 := Hd (only_below (HO3.out.trans OW9) hbl11 (by have := HBB.out; omega));have HBU11 : Hid (Lib.IsBuilder 66 5 Bb Bb (Lib.byteCells (textC (l.take (k + 1)))) w11) := Hd (by
     rw [HTX.out, Lib.byteCells_append];have e1 : Lib.strCells ((⟨(joinW (kw :: st)).toArray⟩ : ByteArray) ++ ⟨#[10]⟩) = Lib.byteCells (joinW (kw :: st) ++ [10]) := by
      show Lib.byteCells (by_ ((⟨(joinW (kw :: st)).toArray⟩ : ByteArray) ++ ⟨#[10]⟩)) = _
      rw [by_append]
      rfl
     rw [← e1];exact .inr hb11)
    clear OW OW8 OW9 own8 grow8 R8 C8 O9 hb11 hbl11 HBW HBU3 HO3 HG3 OV0 R7 L7 BL5 GE5 hjs;go_wp2
    go_roundw
    case rel => exact ⟨k + 1, by go_num, by omega, HAL, HBU11, HO11, Hd (fun h => by omega)⟩
    case measure => simp [intOf]; omega
  ·have hkn : k = n := by omega
   subst hkn;have hd : decide ((k : Int) < (k : Int)) = false := by simp
   have hlk : l.take k = l := List.take_of_length_le (by rw [HN.out]; exact Nat.le_refl _);rw [hlk] at hall hBU;obtain rfl : r = (⟨(textC l).toArray⟩, 0) := by rw [HRR.out, if_pos hall.out]
   have HT : Hid (Calls Tryd.prog 28 #[.pointer (some ⟨Bb, 0, none⟩)] wr fun e w' => e = .returned (.string ⟨(textC l).toArray⟩) ∧ Below Bb wr w') := by
    cases l with
    | nil =>
     have h0 : k = 0 := by rw [← HN.out]; rfl
     exact Hd (btext_nil Bb Bb _ wr (hNB.out h0))
    | cons y l' => exact Hd (btext_any Bb Bb _ wr hBU.out (by simp [textC]))
   clear hall hBU hNB hlk HRR;go_wp2_with fail
   refine (HT.out).mono ?_;rintro e w7 ⟨rfl, hbl7⟩;have HO7 := Hd (only_below hO.out hbl7 (by have := HBB.out; omega));clear hbl7;go_wp2
   go_ret2
   exact ⟨rfl, HO7.out⟩
end Go.Proofs.YtojpohmijlkagaaDoor
