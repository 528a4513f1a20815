/- Parts. -/
import Derived.Test.YtojlaphklkomfaaDoorPairMakesCardK37
set_option maxRecDepth 10000
set_option maxHeartbeats 16000000
set_option linter.unusedVariables false
set_option linter.unusedSimpArgs false
namespace Go.Proofs.YtojlaphklkomfaaDoor
open Go.RowKit
open Go.Lib hiding intOf
attribute [local go_sem ↓] Go.wp_at_zero Go.wp_at_succ
theorem ev_kind {k : Int} {s y : ByteArray} {vk vn : Int} (h : evOk k s y vk vn = true) : 1 ≤ k ∧ k ≤ 6 := by
 unfold evOk at h;rw [Bool.and_eq_true, Bool.and_eq_true] at h;have h1 := h.1.1;unfold kOk at h1;exact of_decide_eq_true h1
theorem flatMap_set_same {α β : Type} {f : α → List β} {l : List α} {i : Nat} {x y : α} (hx : l[i]? = some x) (h : f y = f x) : (l.set i y).flatMap f = l.flatMap f := by
 rw [List.flatMap_def, List.flatMap_def, map_set_same hx h]
theorem txC_cell {xs : List PtA} {i j : Nat} {x y : PtA} {u : Value} (hx : xs[i]? = some x) (hj : j < 3) (h : (txa y).c = (txa x).c.set j u) : (txC (xs.map txa)).set (i * 3 + j) u = txC ((xs.set i y).map txa) := by
 rw [List.map_set];exact flat_set _ 3 (fun _ => rfl) (xs.map txa) i j (txa x) (txa y) u (by rw [List.getElem?_map, hx]; rfl) hj h
theorem wL_fate {VL VN VK VI VO : Value} {xs : List PtA} {i : Nat} {x : PtA} {v : Int} (hx : xs[i]? = some x) (hv : v ≠ 0) :
  ((wL VL VN VK VI VO xs).set 0 ⟨38, 3, VL, xs.length, (txC (xs.map txa)).set (i * 3 + 1) (.int .i64 v)⟩).set 4 ⟨4, 1, VO, xs.length, (rowO VO xs).xs.set i (.bool false)⟩ = wL VL VN VK VI VO (xs.set i { x with p := { x.p with f := v } }) := by
 have e0 := txC_cell (y := { x with p := { x.p with f := v } }) (j := 1) (u := .int .i64 v) hx (by omega) rfl;have e1 : (xs.set i { x with p := { x.p with f := v } }).map (fun x => x.p.s) = xs.map (fun x => x.p.s) := map_set_same hx rfl;have e2 : (xs.set i { x with p := { x.p with f := v } }).map (fun x : PtA => Value.slice x.A x.p.ks.length x.c) = xs.map (fun x => Value.slice x.A x.p.ks.length x.c) := map_set_same hx rfl;have e3 : (xs.set i { x with p := { x.p with f := v } }).map (fun x : PtA => Value.int .i64 x.p.ln) = xs.map (fun x => Value.int .i64 x.p.ln) := map_set_same hx rfl;have e4 : (xs.map (fun x : PtA => Value.bool (decide (x.p.f = 0)))).set i (.bool false) = (xs.set i { x with p := { x.p with f := v } }).map (fun x => Value.bool (decide (x.p.f = 0))) := by
  rw [List.map_set]
  congr 2
  exact (decide_eq_false hv).symm
 have e5 : (xs.set i { x with p := { x.p with f := v } }).flatMap two = xs.flatMap two := flatMap_set_same hx rfl;unfold wL rowL rowN rowK rowI rowO;rw [e1, e2, e3, e5, ← e4, ← e0, List.length_set]
 rfl
set_option maxRecDepth 100000 in
theorem wput_bad (gw : Nat) (m : Mk) (VL VN VK VI VO : Value) (xs : List PtA) (a : Ev6) (w0 w : World) (h : WAt w w0.heap.size gw m.ps VL VN VK VI VO xs) (hO : Only [] w0 w) (hs : a.s.size ≤ 65537) (hy : a.y.size ≤ 65537)
  (hev : evOk a.k a.s a.y a.vk a.vn = false) :
  Calls Tryd.prog 27 #[.pointer (some ⟨gw, 0, none⟩), .agg #[.int .i64 a.k, .string a.s, .string a.y, .int .i64 a.vk, .int .i64 a.vn, .int .i64 a.ln]] w (PutEnd w0 gw m a) := by
 have HT : Hid (takeE m a = 4 ∧ takeM m a = m) := Hd (by
  unfold takeE takeM;rw [hev, if_pos rfl, if_pos rfl];exact ⟨rfl, rfl⟩)
 have HO0 := Hd ((Only.refl [] w).alloc (.cells #[.int .i64 a.k, .string a.s, .string a.y, .int .i64 a.vk, .int .i64 a.vn, .int .i64 a.ln] 44));have HMY := Hd (fun w' => revmay_any a.k a.s a.y a.vk a.vn a.ln w' (by omega) (by omega));rw [hev] at HMY;have HW := Hd h;have HOO := Hd hO;obtain ⟨ak, sn, ay, avk, avn, aln⟩ := a;dsimp only at HT HO0 HMY
 show Calls _ _ #[.pointer (some ⟨gw, 0, none⟩), .agg #[.int .i64 ak, .string sn, .string ay, .int .i64 avk, .int .i64 avn, .int .i64 aln]] _ _
 clear h hO hs hy hev;go_enter Tryd.func27, Tryd.ntmps27;go_wp2_with fail
 refine (HMY.out _).mono ?_;rintro e w2 ⟨rfl, O2⟩;have HO2 := Hd (HO0.out.trans O2);clear O2;go_wp2
 go_ret
 exact ⟨by rw [HT.out.1]; rfl, HOO.out.trans HO2.out, _, _, _, _, _, _, by rw [HT.out.2]; exact HW.out.same HO2.out⟩
set_option maxRecDepth 100000 in
theorem wput_no (gw : Nat) (m : Mk) (VL VN VK VI VO : Value) (xs : List PtA) (a : Ev6) (w0 w : World) (h : WAt w w0.heap.size gw m.ps VL VN VK VI VO xs) (hO : Only [] w0 w) (hB : MkB m) (hs : a.s.size ≤ 65537) (hy : a.y.size ≤ 65537)
  (hev : evOk a.k a.s a.y a.vk a.vn = true) (hc : (a.k ≠ 1 ∧ openI m.ps a.s = none) ∨ (a.k = 1 ∧ ∃ i, openI m.ps a.s = some i)) :
  Calls Tryd.prog 27 #[.pointer (some ⟨gw, 0, none⟩), .agg #[.int .i64 a.k, .string a.s, .string a.y, .int .i64 a.vk, .int .i64 a.vn, .int .i64 a.ln]] w (PutEnd w0 gw m a) := by
 have HT : Hid (takeM m a = m ∧ ((a.k ≠ 1 ∧ openI m.ps a.s = none ∧ takeE m a = 10) ∨ (a.k = 1 ∧ ∃ i : Nat, openI m.ps a.s = some i ∧ takeE m a = 9))) := Hd (by
  unfold takeE takeM;rw [hev, if_neg tf_ne, if_neg tf_ne];rcases hc with ⟨h1, h2⟩ | ⟨h1, i, h2⟩
  ·rw [h2];dsimp only;rw [if_neg h1, if_neg h1];exact ⟨rfl, .inl ⟨h1, rfl, rfl⟩⟩
  ·rw [h2];dsimp only;rw [if_pos h1, if_pos h1];exact ⟨rfl, .inr ⟨h1, i, rfl, rfl⟩⟩)
 have HE0 := Hd (Blk.made w 44 #[.int .i64 a.k, .string a.s, .string a.y, .int .i64 a.vk, .int .i64 a.vn, .int .i64 a.ln]);have HO0 := Hd ((Only.refl [] w).alloc (.cells #[.int .i64 a.k, .string a.s, .string a.y, .int .i64 a.vk, .int .i64 a.vn, .int .i64 a.ln] 44));have HMY := Hd (fun w' => revmay_any a.k a.s a.y a.vk a.vn a.ln w' (by omega) (by omega));have HAT := Hd (fun w' (O : Only [] w w') => rat_any w0.heap.size gw m.ps VL VN VK VI VO xs a.s w' (h.same O) hB.np);rw [hev] at HMY;have HW := Hd h;have HOO := Hd hO;obtain ⟨ak, sn, ay, avk, avn, aln⟩ := a;dsimp only at HT HE0 HO0 HMY HAT
 show Calls _ _ #[.pointer (some ⟨gw, 0, none⟩), .agg #[.int .i64 ak, .string sn, .string ay, .int .i64 avk, .int .i64 avn, .int .i64 aln]] _ _
 clear h hO hB hs hy hev hc;go_enter Tryd.func27, Tryd.ntmps27;go_wp2_with fail
 generalize (w.alloc (.cells #[.int .i64 ak, .string sn, .string ay, .int .i64 avk, .int .i64 avn, .int .i64 aln] 44)) = w1 at *;generalize hge : w.heap.size = ge at *;refine (HMY.out _).mono ?_;rintro e w2 ⟨rfl, O2⟩;have HO2 := Hd (HO0.out.trans O2);have HE2 := Hd (O2.blk HE0.out (by simp));clear O2 HE0 HO0 HMY;have e0 := HE2.out.at_ 0;have e1 := HE2.out.at_ 1;have le := HE2.out.lt;simp at e0 e1;have HFIN := Hd (aI (HOO.out.trans HO2.out) (HW.out.same HO2.out));obtain ⟨hm, ⟨h1, h2, h3⟩ | ⟨h1, i, h2, h3⟩⟩ := HT.out
 ·have HA := HAT.out _ HO2.out;rw [atN_none h2] at HA;have HA2 := Hd HA;have hk1 : (ak == 1) = false := by simpa using h1
  have HH := Hd (And.intro hm h3);clear hm h1 h2 h3 HA HAT HT;go_wp2_with fail
  refine (HA2.out).mono ?_;rintro e w3 ⟨rfl, rfl⟩;go_wp2
  go_ret
  exact ⟨by rw [HH.out.2]; rfl, HFIN.out.1, _, _, _, _, _, _, by rw [HH.out.1]; exact HFIN.out.2⟩
 ·have HA := HAT.out _ HO2.out;rw [atN_some h2] at HA;have HA2 := Hd HA;have HH := Hd (And.intro hm h3);have hi0 : (0 : Int) ≤ (i : Int) := Int.natCast_nonneg _;subst h1;clear hm h2 h3 HA HAT HT;go_wp2_with fail
  refine (HA2.out).mono ?_;rintro e w3 ⟨rfl, rfl⟩;go_wp2
  go_ret
  exact ⟨by rw [HH.out.2]; rfl, HFIN.out.1, _, _, _, _, _, _, by rw [HH.out.1]; exact HFIN.out.2⟩
set_option maxRecDepth 100000 in
theorem wput_end (gw : Nat) (m : Mk) (VL VN VK VI VO : Value) (xs : List PtA) (a : Ev6) (w0 w : World) (i : Nat) (p : Pt) (h : WAt w w0.heap.size gw m.ps VL VN VK VI VO xs) (hO : Only [] w0 w) (hB : MkB m) (hs : a.s.size ≤ 65537) (hy : a.y.size ≤ 65537)
  (hev : evOk a.k a.s a.y a.vk a.vn = true) (ho : openI m.ps a.s = some i) (hp : m.ps[i]? = some p) (hk : 4 ≤ a.k) :
  Calls Tryd.prog 27 #[.pointer (some ⟨gw, 0, none⟩), .agg #[.int .i64 a.k, .string a.s, .string a.y, .int .i64 a.vk, .int .i64 a.vn, .int .i64 a.ln]] w (PutEnd w0 gw m a) := by
 have hk6 := (ev_kind hev).2;have HT : Hid (takeE m a = 0 ∧ (takeM m a).ps = m.ps.set i { p with f := a.k - 3 }) := Hd (by
  have h1 : ¬ a.k = 1 := by omega
  have h2 : ¬ (a.k = 2 ∨ a.k = 3) := by omega
  have hf : fateE a.k = a.k - 3 := by unfold fateE; split <;> (try split) <;> omega
  unfold takeE takeM;rw [hev, if_neg tf_ne, if_neg tf_ne, ho];dsimp only;rw [if_neg h1, if_neg h1, if_neg h2, hp];dsimp only;rw [if_neg h2, hf];exact ⟨rfl, rfl⟩)
 obtain ⟨x, hx, hxp⟩ := h.get hp;have hin := (List.getElem?_eq_some_iff.1 hp).1;have HE0 := Hd (Blk.made w 44 #[.int .i64 a.k, .string a.s, .string a.y, .int .i64 a.vk, .int .i64 a.vn, .int .i64 a.ln]);have HO0 := Hd ((Only.refl [] w).alloc (.cells #[.int .i64 a.k, .string a.s, .string a.y, .int .i64 a.vk, .int .i64 a.vn, .int .i64 a.ln] 44));have HMY := Hd (fun w' => revmay_any a.k a.s a.y a.vk a.vn a.ln w' (by omega) (by omega));have HAT := Hd (fun w' (O : Only [] w w') => rat_any w0.heap.size gw m.ps VL VN VK VI VO xs a.s w' (h.same O) hB.np);rw [atN_some ho] at HAT;rw [hev] at HMY;have HW := Hd h;have HOO := Hd hO;have HX := Hd (And.intro hx hxp);have hnp := hB.np;have hb0 : w0.heap.size ≤ w.heap.size := hO.size;obtain ⟨ak, sn, ay, avk, avn, aln⟩ := a;dsimp only at hk hk6 HT HE0 HO0 HMY HAT
 show Calls _ _ #[.pointer (some ⟨gw, 0, none⟩), .agg #[.int .i64 ak, .string sn, .string ay, .int .i64 avk, .int .i64 avn, .int .i64 aln]] _ _
 clear h hO hB hs hy hev ho hp hx hxp;go_enter Tryd.func27, Tryd.ntmps27;go_wp2_with fail
 generalize (w.alloc (.cells #[.int .i64 ak, .string sn, .string ay, .int .i64 avk, .int .i64 avn, .int .i64 aln] 44)) = w1 at *;generalize hge : w.heap.size = ge at *;refine (HMY.out _).mono ?_;rintro e w2 ⟨rfl, O2⟩;have HO2 := Hd (HO0.out.trans O2);have HE2 := Hd (O2.blk HE0.out (by simp));clear O2 HE0 HO0 HMY;have e0 := HE2.out.at_ 0;have e1 := HE2.out.at_ 1;have le := HE2.out.lt;simp at e0 e1;go_wp2_with fail
 refine (HAT.out _ HO2.out).mono ?_;rintro e w3 ⟨rfl, rfl⟩;have HW3 := Hd (HW.out.same HO2.out);have HOO3 := Hd (HOO.out.trans HO2.out);clear HAT HW HO2 HOO;have hk1 : (ak == 1) = false := by simp; omega
 have hk4 : decide (ak < 4) = false := decide_eq_false (by omega);have hi0 : (0 : Int) ≤ (i : Int) := Int.natCast_nonneg _;have hi1 : (i : Int) < (m.ps.length : Int) := by omega
 have hig : decide ((i : Int) < 0) = false := decide_eq_false (by omega);go_upto_region 15 with (fail)
 clear e0 e1 le;have HB3 := Hd HW3.out.blk;have HG3 := Hd (gw_apart HW3.out.rows HB3.out (ne_list (by decide : (38 : TypeId) ≠ 56) (by decide : (9 : TypeId) ≠ 56) (by decide : (24 : TypeId) ≠ 56) (by decide : (3 : TypeId) ≠ 56) (by decide : (4 : TypeId) ≠ 56) (by decide : (9 : TypeId) ≠ 56) (by decide : (62 : TypeId) ≠ 56)));have HGE3 := Hd (gw_apart HW3.out.rows HE2.out (ne_list (by decide : (38 : TypeId) ≠ 44) (by decide : (9 : TypeId) ≠ 44) (by decide : (24 : TypeId) ≠ 44) (by decide : (3 : TypeId) ≠ 44) (by decide : (4 : TypeId) ≠ 44) (by decide : (9 : TypeId) ≠ 44) (by decide : (62 : TypeId) ≠ 44)));have HL3 := Hd HW3.out.len;have hws : IntKind.i64.wrap (ak - 3) = ak - 3 := IntWalk.i64_in _ (by omega);obtain ⟨⟨AL, cL, rfl, -⟩, -, -, -, ⟨AO, cO, rfl, -⟩⟩ := HW3.out.vals;obtain ⟨gl, rfl⟩ : ∃ g, AL = some ⟨g, 0, none⟩ := by
  rcases (HW3.out.rows.all 0 _ rfl).2 with ⟨e, -⟩ | ⟨g, cap, cur, e, -⟩
  ·injection e with e1 e2;omega
  ·injection e with e1 e2;exact ⟨g, e1⟩
 obtain ⟨go, rfl⟩ : ∃ g, AO = some ⟨g, 0, none⟩ := by
  rcases (HW3.out.rows.all 4 _ rfl).2 with ⟨e, -⟩ | ⟨g, cap, cur, e, -⟩
  ·injection e with e1 e2;omega
  ·injection e with e1 e2;exact ⟨g, e1⟩
 refine rgo (F := [⟨[], [], fun w' => Only (ownB (wL (.slice (some ⟨gl, 0, none⟩) m.ps.length cL) VN VK VI (.slice (some ⟨go, 0, none⟩) m.ps.length cO) xs)) w3 w'⟩]) (th1 ((Only.refl _ w3).drew)) ?_;have OWs0 : Only (ownB (wL (.slice (some ⟨gl, 0, none⟩) m.ps.length cL) VN VK VI (.slice (some ⟨go, 0, none⟩) m.ps.length cO) xs)) w3 w3.drew := (Only.refl _ w3).drew;have HRs0 : ORs w3.drew w0.heap.size (wL (.slice (some ⟨gl, 0, none⟩) m.ps.length cL) VN VK VI (.slice (some ⟨go, 0, none⟩) m.ps.length cO) xs) := HW3.out.rows.only ((Only.refl [] w3).drew) (by simp);generalize hwz : w3.drew = ws0 at *;clear hwz;refine tQ 0 (h := tQ 1 (h := tQ 2 (h := tQ 3 (h := ?_))));refine trd (i := 4) (v := ?_) 0 ?_ ?_;rotate_left
 ·(intro wq hSw; have hb := hSw.blk HB3.out HG3.out; have lb := hb.lt; have b2 := hb.at_ 2; have b6 := hb.at_ 6; simp at b2 b6; clear hb; clear hSw; go_simp; try with_reducible rfl)
 (try simp only [tdz]);refine tQ 5 (h := tQ 6 (h := tQ 7 (h := tQ 8 (h := ?_))));refine trd (i := 9) (v := ?_) 0 ?_ ?_;rotate_left
 ·(intro wq hSw; have hb := hSw.blk HB3.out HG3.out; have lb := hb.lt; have b2 := hb.at_ 2; have b6 := hb.at_ 6; simp at b2 b6; clear hb; clear hSw; go_simp; try with_reducible rfl)
 (try simp only [tdz]);refine tQ 10 (h := tQ 11 (h := ?_));refine trd (i := 12) (v := ?_) 0 ?_ ?_;rotate_left
 ·(intro wq hSw; have he := hSw.blk HE2.out HGE3.out; have le := he.lt; have e0 := he.at_ 0; simp at e0; clear he; clear hSw; go_simp; try with_reducible rfl)
 (try simp only [tdz]);refine tQ 13 (h := tQ 14 (h := tQ 15 (h := ?_)));refine tst (i := 16) fun K hK => ?_;have HV : ws0.ownsRow w0.heap.size 38 3 (.slice (some ⟨gl, 0, none⟩) m.ps.length cL) xs.length (txC (xs.map txa)) := HRs0.all 0 _ rfl;obtain ⟨c1, f1⟩ := own_cell HV (g := gl) rfl (j := i * 3 + 1) (u := .int .i64 x.p.f) (by rw [txC_get _ i (txa x) (by rw [List.getElem?_map, HX.out.1]; rfl) 1 (by omega)]; rfl);have l1 := own_lt HV (g := gl) (by simp [Value.ownBlock]);go_simp;have OWs1 := OWs0.put (p := ⟨gl, i * 3 + 1, none⟩) (fun _ => ownB_mem.2 ⟨0, _, rfl, rfl⟩) (.int .i64 (ak - 3));have HRs1 : ORs (ws0.setCell ⟨gl, i * 3 + 1, none⟩ (.int .i64 (ak - 3))) w0.heap.size ((wL (.slice (some ⟨gl, 0, none⟩) m.ps.length cL) VN VK VI (.slice (some ⟨go, 0, none⟩) m.ps.length cO) xs).set 0 ⟨38, 3, (.slice (some ⟨gl, 0, none⟩) m.ps.length cL), xs.length, (txC (xs.map txa)).set (i * 3 + 1) (.int .i64 (ak - 3))⟩) := HRs0.cell (i := 0) (g := gl) (j := i * 3 + 1) rfl rfl (by show i * 3 + 1 < (txC (xs.map txa)).length; rw [txC_len, List.length_map, HL3.out]; omega) (.int .i64 (ak - 3)) rfl;clear HV c1 f1 l1 OWs0 HRs0;generalize (ws0.setCell ⟨gl, i * 3 + 1, none⟩ (.int .i64 (ak - 3))) = ws1 at *;refine kOut hK (OWs1) (h := ?_);clear hK K;refine tQ 17 (h := ?_);refine tst (i := 18) fun K hK => ?_;have HV : ws1.ownsRow w0.heap.size 4 1 (.slice (some ⟨go, 0, none⟩) m.ps.length cO) xs.length (rowO (.slice (some ⟨go, 0, none⟩) m.ps.length cO) xs).xs := HRs1.all 4 _ rfl;obtain ⟨c1, f1⟩ := own_cell HV (g := go) rfl (j := i) (u := .bool (decide (x.p.f = 0))) (by show (xs.map _)[i]? = _; rw [List.getElem?_map, HX.out.1]; rfl);have l1 := own_lt HV (g := go) (by simp [Value.ownBlock]);go_simp;have OWs2 := OWs1.put (p := ⟨go, i, none⟩) (fun _ => ownB_mem.2 ⟨4, _, rfl, rfl⟩) (.bool false);have HRs2 : ORs (ws1.setCell ⟨go, i, none⟩ (.bool false)) w0.heap.size (((wL (.slice (some ⟨gl, 0, none⟩) m.ps.length cL) VN VK VI (.slice (some ⟨go, 0, none⟩) m.ps.length cO) xs).set 0 ⟨38, 3, (.slice (some ⟨gl, 0, none⟩) m.ps.length cL), xs.length, (txC (xs.map txa)).set (i * 3 + 1) (.int .i64 (ak - 3))⟩).set 4 ⟨4, 1, (.slice (some ⟨go, 0, none⟩) m.ps.length cO), xs.length, (rowO (.slice (some ⟨go, 0, none⟩) m.ps.length cO) xs).xs.set i (.bool false)⟩) := HRs1.cell (i := 4) (g := go) (j := i) rfl rfl (by show i < (xs.map _).length; rw [List.length_map, HL3.out]; exact hin) (.bool false) rfl;clear HV c1 f1 l1 OWs1 HRs1;generalize (ws1.setCell ⟨go, i, none⟩ (.bool false)) = ws2 at *;refine kOut hK (OWs2) (h := ?_);clear hK K;refine tdn ?_;have HFIN : WAt ws2 w0.heap.size gw (m.ps.set i { p with f := ak - 3 }) (.slice (some ⟨gl, 0, none⟩) m.ps.length cL) VN VK VI (.slice (some ⟨go, 0, none⟩) m.ps.length cO) (xs.set i { x with p := { x.p with f := ak - 3 } }) := by
  refine ⟨OWs2.blk HB3.out HG3.out, HW3.out.gwb, ?_, ?_⟩
  ·rw [List.map_set, HW3.out.parts, HX.out.2]
  ·have := HRs2
   rwa [wL_fate HX.out.1 (by omega)] at this
 have HFF := Hd (aI (HOO3.out.step OWs2 (fun j hj hl => by have := (HW3.out.rows.ge j hj).1; omega)) HFIN);clear HFIN OWs2 HRs2;go_wp2
 go_ret
 exact ⟨by rw [HT.out.1]; rfl, HFF.out.1, _, _, _, _, _, _, by rw [HT.out.2]; exact HFF.out.2⟩
end Go.Proofs.YtojlaphklkomfaaDoor
