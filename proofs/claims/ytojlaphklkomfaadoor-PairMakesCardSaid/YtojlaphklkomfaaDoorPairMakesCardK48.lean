/- Parts. -/
import Derived.Test.YtojlaphklkomfaaDoorPairMakesCardK41
import Derived.Test.YtojlaphklkomfaaDoorPairMakesCardK45
import Derived.Test.YtojlaphklkomfaaDoorPairMakesCardK47
set_option maxRecDepth 10000
set_option maxHeartbeats 16000000
set_option linter.unusedVariables false
set_option linter.unusedSimpArgs false
namespace Go.Proofs.YtojlaphklkomfaaDoor
open Go.RowKit
open Go.Lib hiding intOf
theorem mkb_run : ∀ (l : List Ev6) (m : Mk), MkB m → (∀ x ∈ l, x.s.size ≤ 65537 ∧ x.y.size ≤ 65537) → MkB (runM m l).1
 | [], m, h, _ => h
 | a :: l, m, h, hz => by
  unfold runM
  split
  ·rename_i he
   exact mkb_run l _ (mkb_take h (hz a List.mem_cons_self).1 (hz a List.mem_cons_self).2 he) (fun x hx => hz x (List.mem_cons_of_mem _ hx))
  ·exact h
theorem pair_small {l : List Ev6} (hz : ∀ x ∈ l, x.s.size ≤ 65537 ∧ x.y.size ≤ 65537) : HSmall (pairH l) := by
 have h0 : HSmall ⟨[], [], []⟩ := ⟨by simp, by simp, by simp, by simp, by simp, by simp⟩;unfold pairH
 split
 ·have hb : MkB (followR l).1 := by
   have := mkb_run l mk0 mkb_0 hz;unfold followR
   split
   ·exact this
   ·exact this
  refine ⟨hb.zs, hb.zk, (by show (followR l).1.ss.length ≤ _; have := hb.ns; omega), (by show (followR l).1.ks.length ≤ _; have := hb.nk; omega), ?_, ?_⟩
  ·show ((followR l).1.ps.map _).length ≤ _
   rw [List.length_map];have := hb.np;omega
  ·intro t ht;obtain ⟨p, hp, rfl⟩ := List.mem_map.1 (show t ∈ (followR l).1.ps.map (txOf (followR l).1) from ht);have hn := hb.no p hp
   show (keyed _ p).length ≤ _
   rw [keyed_len _ p hn.2.1];omega
 ·exact h0
attribute [local go_sem ↓] Go.wp_at_zero Go.wp_at_succ
theorem eqH_same (h : Hst) : eqH h h = true := by simp [eqH]
theorem ins_len (out : List ByteArray) (x : ByteArray) : (insB out x).length ≤ out.length + 1 := by
 unfold insB
 split
 ·split
  ·exact Nat.le_succ _
  ·rw [List.length_append, List.length_cons, List.length_take, List.length_drop];have := ahead_le out x;omega
 ·exact Nat.le_succ _
theorem fold_ins : ∀ (l out : List ByteArray), (l.foldl insB out).length ≤ out.length + l.length
 | [], out => Nat.le_refl _
 | x :: l, out => by
  rw [List.foldl_cons, List.length_cons];have h1 := fold_ins l (insB out x);have h2 := ins_len out x;omega
theorem open_len {l : List Ev6} (hz : ∀ x ∈ l, x.s.size ≤ 65537 ∧ x.y.size ≤ 65537) : (openL l).length ≤ 40 := by
 unfold openL
 split
 ·have h1 := fold_ins (((runM mk0 l).1.ps.filter opP).map Pt.s) [];have h2 := (mkb_run l mk0 mkb_0 hz).np;have h3 := List.length_filter_le opP (runM mk0 l).1.ps;rw [List.length_map] at h1
  show (List.foldl insB [] _).length ≤ 40
  simp only [List.length_nil] at h1;omega
 ·simp
set_option maxRecDepth 100000 in
theorem pairMakes_walk (A : Option Addr) (n c : Nat) (l : List Ev6) (w : World) (hn : l.length = n) (hc : n ≤ c) (hcm : c ≤ maxLen) (hz : ∀ x ∈ l, x.s.size ≤ maxLen ∧ x.y.size ≤ maxLen ∧ -9223372036854775808 ≤ x.vn ∧ x.vn ≤ 9223372036854775807) (hA : Row w w.heap.size A (logC l)) (hT : UTabs w) (hV : Verbs w) :
  Calls Tryd.prog 3 #[.slice A n c] w fun e w' => e = .returned (.bool true) ∧ Only [] w w' := by
 unfold maxLen at hcm hz;have HW := Hd (fun W (O : Only [] w W) => works10_any W (hT.only O) (hV.only O));have HF := Hd (few8_any A n c _ l w hn (by omega) (fun x hx => by have := hz x hx; omega) hA);have hfl := few8_len l;have hfs := @short8_le l;have hff := few8_few8 l;generalize few8 l = f at *;have HF2 : Hid (∀ (B : Option Addr) (d : Nat) (W : World), Row W W.heap.size B (logC f) → Calls Tryd.prog 6 #[.slice B f.length d] W fun e w' => Only [] W w' ∧ ∃ V, e = .returned V ∧ w'.ownsRow W.heap.size 44 6 V f.length (logC f) ∧ ∃ g, V.ownBlock = some g) := Hd (fun B d W hB => by
  have := few8_any B f.length d W.heap.size f W rfl (by omega) (fun x hx => by have := hfs x hx; omega) hB;rw [hff] at this;exact this)
 have HP := Hd (fun B d W (O : Only [] w W) hB => phist_any B f.length d f W rfl (by omega) hB hfs (hT.only O) (hV.only O));have HQ := Hd (fun B d W (O : Only [] w W) hB => rhist_any B f.length d f W rfl (by omega) hB hfs);have HOP := Hd (fun B d W (O : Only [] w W) hB => popen_any B f.length d f W rfl (by omega) hB hfs (hT.only O) (hV.only O));have HOQ := Hd (fun B d W (O : Only [] w W) hB => ropen_any B f.length d f W rfl (by omega) hB hfs);have HSM := Hd (pair_small hfs);have HT := Hd (fun W (O : Only [] w W) => hT.only O);have hol := open_len hfs;unfold HistAll at HQ;generalize openL f = ol at *;generalize pairE f = pe at *;generalize pairL f = pl at *;generalize pairH f = h at *;have HEQ := Hd (eqH_same h);clear hn hc hcm hz hA hT hV hfs hff;go_enter Tryd.func3, Tryd.ntmps3;go_wp2_with fail
 refine (HF.out).mono ?_;rintro e w1 ⟨O1, V1, rfl, hown1, -⟩;obtain ⟨A1, c1, rfl, -, -, -, hrow1⟩ := own_row hown1;have HR1 := Hd hrow1;have HO1 := Hd O1;clear hown1 hrow1 O1 HF;have HC2 := Hd (HF2.out A1 c1 w1 HR1.out);go_wp2_with fail
 refine (HC2.out).mono ?_;rintro e w2 ⟨O2, V2, rfl, hown2, -⟩;obtain ⟨A2, c2, rfl, -, -, -, hrow2⟩ := own_row hown2;have HO2 := Hd (HO1.out.trans O2);have HR2 := Hd (row_up (HR1.out.only O2 (by simp)));have HC3 := Hd (HP.out A2 c2 w2 HO2.out hrow2);clear hown2 hrow2 O2 HC2 HP HR1 HO1;go_wp2_with fail
 refine (HC3.out).mono ?_;rintro e w3 ⟨B0, B1, B2, d0, d1, d2, ⟨rfl, hA3⟩, O3⟩;have HA3 := Hd hA3;have HO3 := Hd (HO2.out.trans O3);have HR3 := Hd (row_up (HR2.out.only O3 (by simp)));clear O3 hA3 HC3 HO2 HR2;have o4 := (Only.refl [] w3).alloc (.cells #[.slice B0 h.ss.length d0, .slice B1 h.ks.length d1, .slice B2 h.l.length d2] 27);have HB4 := Hd (Blk.made w3 27 #[.slice B0 h.ss.length d0, .slice B1 h.ks.length d1, .slice B2 h.l.length d2]);have HO4 := Hd (HO3.out.trans o4);have HA4 := Hd (HA3.out.only o4 (by simp));have HR4 := Hd (row_up (HR3.out.only o4 (by simp)));clear o4 HA3 HO3 HR3;go_wp2_with fail
 generalize (w3.alloc (.cells #[.slice B0 h.ss.length d0, .slice B1 h.ks.length d1, .slice B2 h.l.length d2] 27)) = w4 at *;generalize w3.heap.size = g1 at *;have HC5 := Hd (HQ.out A1 c1 w4 HO4.out HR4.out);refine (HC5.out).mono ?_;rintro e w5 ⟨D0, D1, D2, k0, k1, k2, ⟨rfl, hA5⟩, O5⟩;have HB5 := Hd (O5.blk HB4.out (by simp));have HA5 := Hd (HA4.out.only O5 (by simp));have HO5 := Hd (HO4.out.trans O5);have HC6 := Hd hA5;have HR5 := Hd (row_up (HR4.out.only O5 (by simp)));clear hA5 O5 HC5 HQ HB4 HA4 HO4 HR4;have o6 := (Only.refl [] w5).alloc (.cells #[.slice D0 h.ss.length k0, .slice D1 h.ks.length k1, .slice D2 h.l.length k2] 27);have HD6 := Hd (Blk.made w5 27 #[.slice D0 h.ss.length k0, .slice D1 h.ks.length k1, .slice D2 h.l.length k2]);have HB6 := Hd (o6.blk HB5.out (by simp));have HO6 := Hd (HO5.out.trans o6);have HA6 := Hd (HA5.out.only o6 (by simp));have HE6 := Hd (HC6.out.only o6 (by simp));have HR6 := Hd (row_up (HR5.out.only o6 (by simp)));clear o6 HB5 HA5 HO5 HC6 HR5;have y0 := HB6.out.at_ 0;have y1 := HB6.out.at_ 1;have y2 := HB6.out.at_ 2;have ly := HB6.out.lt;have z0 := HD6.out.at_ 0;have z1 := HD6.out.at_ 1;have z2 := HD6.out.at_ 2;have lz := HD6.out.lt;simp at y0 y1 y2 z0 z1 z2;go_wp2_with fail
 refine (rsame10_any B0 B1 B2 _ _ _ d0 d1 d2 _ h D0 D1 D2 _ _ _ k0 k1 k2 _ h _ ⟨HA6.out, rfl, rfl, rfl, HSM.out, HT.out _ HO6.out⟩ ⟨HE6.out, rfl, rfl, rfl, HSM.out, HT.out _ HO6.out⟩).mono ?_;rintro e w7 ⟨rfl, O7⟩;rw [HEQ.out];have HO7 := Hd (HO6.out.trans O7);have HR7 := Hd (row_up (HR6.out.only O7 (by simp)));have HC8 := Hd (HF2.out A1 c1 w7 HR7.out);clear O7 y0 y1 y2 z0 z1 z2 ly lz HB6 HD6 HA6 HE6 HO6 HR6 HF2;go_wp2_with fail
 refine (HC8.out).mono ?_;rintro e w8 ⟨O8, V8, rfl, hown8, -⟩;obtain ⟨A8, c8, rfl, -, -, -, hrow8⟩ := own_row hown8;have HO8 := Hd (HO7.out.trans O8);have HR8 := Hd (row_up (HR7.out.only O8 (by simp)));have HC9 := Hd (HOP.out A8 c8 w8 HO8.out hrow8);clear hown8 hrow8 O8 HC8 HOP HR7 HO7;go_wp2_with fail
 refine (HC9.out).mono ?_;rintro e w9 ⟨A9, m9, c9, ⟨rfl, hl9, hr9⟩, O9⟩;have HO9 := Hd (HO8.out.trans O9);have HR9 := Hd (row_up (HR8.out.only O9 (by simp)));have HX9 := Hd hr9;have HC10 := Hd (HOQ.out A1 c1 w9 HO9.out HR9.out);clear hr9 O9 HC9 HOQ HR8 HO8;go_wp2_with fail
 refine (HC10.out).mono ?_;rintro e w10 ⟨A10, m10, c10, ⟨rfl, hl10, hr10⟩, O10⟩;have HO10 := Hd (HO9.out.trans O10);have HX10 := Hd (HX9.out.only O10 (by simp));obtain rfl : m9 = m10 := by omega
 have HC11 := Hd (sameTexts_same A9 A10 m9 c9 c10 ol w10 _ _ HX10.out hr10 hl9 (by omega));clear hr10 O10 HC10 HX9 HO9 HR9 hl9 hl10;go_wp2_with fail
 refine (HC11.out).mono ?_;rintro e w11 ⟨rfl, kd, rfl⟩;have HO11 := Hd (HO10.out.drewN kd);have HC12 := Hd (HW.out _ HO11.out);clear HC11 HW;go_wp2_with fail
 refine (HC12.out).mono ?_;rintro e w12 ⟨rfl, O12⟩;have HO12 := Hd (HO11.out.trans O12);clear O12;go_wp2
 go_ret
 exact ⟨rfl, HO12.out⟩
end Go.Proofs.YtojlaphklkomfaaDoor
