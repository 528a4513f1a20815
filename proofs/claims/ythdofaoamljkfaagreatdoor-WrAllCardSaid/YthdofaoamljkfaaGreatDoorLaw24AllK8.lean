/- Parts. -/
import Derived.Test.YthdofaoamljkfaaGreatDoorLaw24AllK7
set_option maxRecDepth 10000
set_option maxHeartbeats 16000000
set_option linter.unusedVariables false
set_option linter.unusedSimpArgs false
namespace Go.Proofs.YthdofaoamljkfaaGreatDoor
open Go.RowKit
open Go.Lib hiding intOf
attribute [local go_sem ↓] Go.wp_at_zero Go.wp_at_succ
def idxI (l : List Int) (x : Int) : Int := match l.findIdx? (fun y => decide (x = y)) with | some i => (i : Int) | none => -1
theorem idxI_some {l : List Int} {x : Int} {k : Nat} (hk : l[k]? = some x) (hn : ∀ j y, j < k → l[j]? = some y → x ≠ y) : idxI l x = k := by
 unfold idxI;have : l.findIdx? (fun y => decide (x = y)) = some k := by
  rw [List.findIdx?_eq_some_iff_getElem];obtain ⟨h1, h2⟩ := List.getElem?_eq_some_iff.1 hk;refine ⟨h1, by rw [h2]; simp, fun j hj => ?_⟩;have := hn j _ hj (List.getElem?_eq_getElem (by omega))
  simpa using this
 rw [this]
theorem idxI_none {l : List Int} {x : Int} (hn : ∀ (j : Nat) y, l[j]? = some y → x ≠ y) : idxI l x = -1 := by
 unfold idxI;have : l.findIdx? (fun y => decide (x = y)) = none := by
  rw [List.findIdx?_eq_none_iff];intro y hy;obtain ⟨j, hj⟩ := List.mem_iff_getElem?.1 hy
  simpa using hn j y hj
 rw [this]
theorem idxI_ge (l : List Int) (x : Int) : decide (0 ≤ idxI l x) = decide (x ∈ l) := by
 unfold idxI
 cases h : l.findIdx? (fun y => decide (x = y)) with
 | none =>
  rw [List.findIdx?_eq_none_iff] at h;have : x ∉ l := fun hm => by simpa using h x hm
  simp [this]
 | some i =>
  rw [List.findIdx?_eq_some_iff_getElem] at h;obtain ⟨h1, h2, -⟩ := h;have : x ∈ l := by
   have e : x = l[i] := by simpa using h2
   rw [e];exact List.getElem_mem h1
  simp [this]
theorem indexI_any (A : Option Addr) (n c B : Nat) (zs : List Int) (x : Int) (w : World) (hn : zs.length = n) (hnm : n ≤ 1000000) (hA : Row w B A (zs.map (Value.int .i64))) :
  Calls Tryz.prog 57 #[.slice A n c, .int .i64 x] w fun e w' => e = .returned (.int .i64 (idxI zs x)) ∧ w = w' := by
 have HA := Hd hA;have HN := Hd hn;clear hA hn;go_enter Tryz.func57, Tryz.ntmps57;go_wp2_with fail
 go_loopw [8] (fun iv wr => ∃ k : Nat, iv = .int .i64 k ∧ k ≤ n ∧ Hid (∀ j y, j < k → zs[j]? = some y → x ≠ y) ∧ wr = w) (fun iv _ => n - (intOf iv).toNat)
 case atStart => exact ⟨0, rfl, by omega, Hd (fun j y h => by omega), rfl⟩
 case round =>
  obtain ⟨k, rfl, hk, hno, rfl⟩ := hrel
  by_cases hlt : k < n
  ·obtain ⟨b, off, rfl, -, hbw, hc⟩ := HA.out.open_ (k := k) (by rw [List.length_map, HN.out]; exact hlt);obtain ⟨y, hy⟩ : ∃ y, zs[k]? = some y := ⟨_, List.getElem?_eq_getElem (by rw [HN.out]; exact hlt)⟩;have hcy : wr.cell? ⟨b, off + k, none⟩ = some (.int .i64 y) := hc k _ (by rw [List.getElem?_map, hy]; rfl);have h01 : (k : Int) < (n : Int) := by omega
   have hk0 : (0 : Int) ≤ (k : Int) := Int.natCast_nonneg _;have hwk : IntKind.i64.wrap ((k : Int) + 1) = (k : Int) + 1 := IntWalk.i64_in _ (by omega);have HY := Hd hy;clear hc hy
   by_cases hxy : x = y
   ·subst hxy;go_wp2
    go_ret
    exact ⟨by rw [idxI_some HY.out hno.out]; rfl, rfl⟩
   ·have hb : (x == y) = false := by simpa using hxy
    have HXY := Hd hxy;clear hxy;go_wp2
    go_roundw
    case rel =>
     refine ⟨k + 1, by go_num, by omega, Hd (fun j y' hj hy' => ?_), trivial⟩
     by_cases h : j < k
     ·exact hno.out j y' h hy'
     ·obtain rfl : j = k := by omega
      rw [HY.out] at hy';obtain rfl := Option.some.inj hy';exact HXY.out
    case measure => simp [intOf]; omega
  ·have hkn : k = n := by omega
   subst hkn;have hd : decide ((k : Int) < (k : Int)) = false := by simp
   have H : Hid (idxI zs x = -1) := Hd (idxI_none fun j y hy => hno.out j y (by rw [← HN.out]; exact (List.getElem?_eq_some_iff.1 hy).1) hy);go_wp2
   go_ret
   exact ⟨by rw [H.out]; rfl, rfl⟩
theorem contI_any (A : Option Addr) (n c B : Nat) (zs : List Int) (x : Int) (w : World) (hn : zs.length = n) (hnm : n ≤ 1000000) (hA : Row w B A (zs.map (Value.int .i64))) :
  Calls Tryz.prog 69 #[.slice A n c, .int .i64 x] w fun e w' => e = .returned (.bool (decide (x ∈ zs))) ∧ w = w' := by
 have HI := Hd (indexI_any A n c B zs x w hn hnm hA);have HG := Hd (idxI_ge zs x);generalize idxI zs x = i at *;go_enter Tryz.func69, Tryz.ntmps69;go_wp2_with fail
 refine (HI.out).mono ?_;rintro e w1 ⟨rfl, rfl⟩;go_wp2
 go_ret
 exact ⟨by rw [← HG.out]; rfl, rfl⟩
def fateB (f : Int) : Bool := decide (1 ≤ f ∧ f ≤ 3)
theorem fate_any (f : Int) (w : World) : Calls Tryz.prog 79 #[.int .i64 f] w fun e w' => e = .returned (.bool (fateB f)) ∧ w = w' := by
 by_cases h1 : f = 1
 ·subst h1;go_enter Tryz.func79, Tryz.ntmps79;go_wp2
  go_ret
  exact ⟨rfl, rfl⟩
 ·have h1' : (f == 1) = false := by simpa using h1
  by_cases h2 : f = 2
  ·subst h2;go_enter Tryz.func79, Tryz.ntmps79;go_wp2
   go_ret
   exact ⟨rfl, rfl⟩
  ·have h2' : (f == 2) = false := by simpa using h2
   by_cases h3 : f = 3
   ·subst h3;go_enter Tryz.func79, Tryz.ntmps79;go_wp2
    go_ret
    exact ⟨rfl, rfl⟩
   ·have h3' : (f == 3) = false := by simpa using h3
    have HF : Hid (fateB f = false) := Hd (decide_eq_false (by omega));clear h1 h2 h3;go_enter Tryz.func79, Tryz.ntmps79;go_wp2
    go_ret
    exact ⟨by rw [HF.out]; rfl, rfl⟩
def namesB (l : List ByteArray) (m : Nat) : Bool := decide (l.length ≤ m) && tabB l
theorem names_any (A : Option Addr) (n c B m : Nat) (t : List ByteArray) (w : World) (hn : t.length = n) (hnm : n ≤ 1000000) (hz : ∀ z ∈ t, z.size ≤ 65537) (hA : Row w B A (strs t)) (hT : UTabs w) :
  Calls Tryz.prog 58 #[.slice A n c, .int .i64 (m : Int)] w fun e w' => e = .returned (.bool (namesB t m)) ∧ Only [] w w' := by
 have HI := Hd (istab_any A n c B t w hn (by omega) (fun z hz' => by have := hz z hz'; omega) hA hT);unfold namesB;rw [hn];generalize tabB t = b at *;clear hz hA hT hn
 by_cases hle : n ≤ m
 ·have h1 : decide ((n : Int) ≤ (m : Int)) = true := by simp; omega
  have h2 : decide (n ≤ m) = true := by simpa using hle
  go_enter Tryz.func58, Tryz.ntmps58;go_wp2_with fail
  refine (HI.out).mono ?_;rintro e w1 ⟨rfl, O1⟩;have HO := Hd O1;clear O1;go_wp2
  go_ret
  exact ⟨by simp [hle], HO.out⟩
 ·have h1 : decide ((n : Int) ≤ (m : Int)) = false := by simp; omega
  have h2 : decide (n ≤ m) = false := by simpa using hle
  go_enter Tryz.func58, Tryz.ntmps58;go_wp2
  go_ret
  exact ⟨by simp [hle], Only.refl _ _⟩
def txB (ns : Nat) (t : Tx) : Bool := decide (0 ≤ t.s ∧ t.s < ns) && (fateB t.f && decide (t.ops.length ≤ 20))
def cntL (m : Nat) (l : List Int) : List Int := (List.range m).map fun i : Nat => ((l.countP fun s => decide (s = (i : Int)) : Nat) : Int)
def cntC (m : Nat) (l : List Int) : Array Value := ((cntL m l).map (Value.int .i64)).toArray
theorem cntL_len (m : Nat) (l : List Int) : (cntL m l).length = m := by simp [cntL]
theorem cntC_size (m : Nat) (l : List Int) : (cntC m l).size = m := by simp [cntC, cntL]
theorem cntC_at (m : Nat) (l : List Int) (i : Nat) (hi : i < m) : (cntC m l)[i]? = some (.int .i64 ((l.countP fun s => decide (s = (i : Int)) : Nat) : Int)) := by
 simp [cntC, cntL, hi]
theorem cntC_snoc (m : Nat) (l : List Int) (i : Nat) (hi : i < m) : cntC m (l ++ [(i : Int)]) = (cntC m l).setIfInBounds i (.int .i64 (((l.countP fun s => decide (s = (i : Int)) : Nat) : Int) + 1)) := by
 refine Array.ext_getElem? fun j => ?_
 by_cases hj : j < m
 ·rw [cntC_at _ _ _ hj, Array.getElem?_setIfInBounds]
  by_cases hij : i = j
  ·subst hij;rw [if_pos rfl, if_pos (by rw [cntC_size]; exact hi)];simp
  ·rw [if_neg hij, cntC_at _ _ _ hj];have : ((i : Int) = (j : Int)) = False := by simp; omega
   simp [this]
 ·rw [Array.getElem?_eq_none (by rw [cntC_size]; omega), Array.getElem?_eq_none (by simp [cntC_size]; omega)]
theorem cntL_zero (m : Nat) (l : List Int) (n : Nat) (hn : n ≤ m) : decide ((0 : Int) ∈ (cntL m l).take n) = !((List.range n).all fun i : Nat => decide ((i : Int) ∈ l)) := by
 have e : (cntL m l).take n = cntL n l := by
  unfold cntL;rw [← List.map_take, List.take_range, Nat.min_eq_left hn]
 rw [e]
 by_cases h : ∀ i, i < n → ((i : Nat) : Int) ∈ l
 ·have h1 : ((List.range n).all fun i : Nat => decide ((i : Int) ∈ l)) = true := by simpa using h
  rw [h1];simp only [Bool.not_true, decide_eq_false_iff_not];intro hm;unfold cntL at hm;obtain ⟨i, hi, he⟩ := List.mem_map.1 hm;have hin := h i (List.mem_range.1 hi);have : 0 < l.countP fun s => decide (s = (i : Int)) := List.countP_pos_iff.2 ⟨_, hin, by simp⟩;omega
 ·have h1 : ((List.range n).all fun i : Nat => decide ((i : Int) ∈ l)) = false := by
   rw [List.all_eq_false];simp only [Classical.not_forall] at h;obtain ⟨i, hi, hm⟩ := h;exact ⟨i, List.mem_range.2 hi, by simpa using hm⟩
  rw [h1];simp only [Bool.not_false, decide_eq_true_eq];simp only [Classical.not_forall] at h;obtain ⟨i, hi, hm⟩ := h;refine List.mem_map.2 ⟨i, List.mem_range.2 hi, ?_⟩;have : l.countP (fun s => decide (s = (i : Int))) = 0 := by
   rw [List.countP_eq_zero];intro a ha hd;have : a = (i : Int) := by simpa using hd
   exact hm (this ▸ ha)
  rw [this]
  rfl
def useB (n : Nat) (l : List Int) : Bool := (List.range n).all fun i : Nat => decide ((i : Int) ∈ l)
def txsB (h : Hst) : Bool := decide (h.l.length ≤ 40) && (h.l.all (txB h.ss.length) && useB h.ss.length (h.l.map Tx.s))
theorem txs_no {h : Hst} {k : Nat} {t : Tx} (hk : h.l[k]? = some t) (hb : txB h.ss.length t = false) : txsB h = false := by
 unfold txsB;have : h.l.all (txB h.ss.length) = false := by
  rw [List.all_eq_false];exact ⟨t, List.mem_of_getElem? hk, by rw [hb]; simp⟩
 rw [this];simp
theorem takeTx_all {α : Type} {l : List α} {p : α → Bool} {k : Nat} {x : α} (h : (l.take k).all p = true) (hk : l[k]? = some x) (hx : p x = true) : (l.take (k + 1)).all p = true := by
 rw [List.take_add_one, hk, List.all_append, h]
 simpa using hx
theorem row_front {w : World} {g : Nat} {t : TypeId} {zs : List Int} (h : Blk w g t (zs.map (Value.int .i64)).toArray) (n : Nat) : Row w w.heap.size (some ⟨g, 0, none⟩) ((zs.take n).map (Value.int .i64)) :=
 .inr ⟨g, 0, rfl, h.lt, Nat.le_refl _, fun j u hu => by
  rw [Nat.zero_add, h.at_ j];rw [List.map_take, List.getElem?_take] at hu
  split at hu
  ·simpa using hu
  ·cases hu⟩
theorem txs_any (A0 A1 A2 : Option Addr) (n0 n1 n2 c0 c1 c2 B : Nat) (h : Hst) (w : World) (hg : HAt w B A0 A1 A2 h) (hn0 : h.ss.length = n0) (hn2 : h.l.length = n2) (h20 : n0 ≤ 20) (hM : n2 ≤ 1000) :
  Calls Tryz.prog 59 #[hval A0 A1 A2 n0 n1 n2 c0 c1 c2] w fun e w' => e = .returned (.bool (txsB h)) ∧ Only [] w w' := by
 unfold hval;have HFT := Hd (fun f w' => fate_any f w');have HG := Hd hg.r2;have HN0 := Hd hn0;have HN2 := Hd hn2;have HO := Hd ((Only.refl [] w).alloc (.cells #[.slice A0 n0 c0, .slice A1 n1 c1, .slice A2 n2 c2] 25));clear hg
 by_cases h40 : n2 ≤ 40
 ·have hd : decide ((40 : Int) < (n2 : Int)) = false := by simp; omega
  obtain ⟨r, hr⟩ : ∃ r, r = txsB h := ⟨_, rfl⟩;rw [← hr];have HR := Hd hr;have HB1 := Hd ((Blk.made w 25 #[.slice A0 n0 c0, .slice A1 n1 c1, .slice A2 n2 c2]).alloc (.cells (cntC 20 []) 112));have HU1 := Hd (Blk.made (w.alloc (.cells #[.slice A0 n0 c0, .slice A1 n1 c1, .slice A2 n2 c2] 25)) 112 (cntC 20 []));have HO1 := Hd (HO.out.alloc (.cells (cntC 20 []) 112));rw [World.size_alloc] at HU1;clear hr hn0 hn2 HO;go_enter Tryz.func59, Tryz.ntmps59;go_wp2_with fail
  go_loopw [13] (fun iv wr => ∃ k : Nat, iv = .int .i64 k ∧ k ≤ n2 ∧ Hid ((h.l.take k).all (txB n0) = true) ∧ Hid (Blk wr w.heap.size 25 #[.slice A0 n0 c0, .slice A1 n1 c1, .slice A2 n2 c2]) ∧ Hid (Blk wr (w.heap.size + 1) 112 (cntC 20 ((h.l.take k).map Tx.s))) ∧ Hid (Only [] w wr)) (fun iv _ => n2 - (intOf iv).toNat)
  case atStart => exact ⟨0, rfl, by omega, Hd (by simp), HB1, HU1, HO1⟩
  case round =>
   obtain ⟨k, rfl, hk, hall, hB, hU, hO⟩ := hrel;have hsz := hO.out.size
   by_cases hlt : k < n2
   ·obtain ⟨x, hx⟩ : ∃ x, h.l[k]? = some x := ⟨_, List.getElem?_eq_getElem (by rw [HN2.out]; exact hlt)⟩;obtain ⟨b, off, A', cp, rfl, -, hbw, hT, hOk⟩ := HG.out.at_ hx;obtain ⟨a0, a1, a2⟩ := hT.only hO.out hbw (by simp);have hln := Nat.le_trans hOk.le hOk.cap;unfold maxLen at hln;have HX := Hd hx;obtain ⟨s, f, ops⟩ := x;dsimp only at a0 a1 a2 hln;generalize hm : ops.length = m at *;have HMM := Hd hm;have h01 : (k : Int) < (n2 : Int) := by omega
    have hk0 : (0 : Int) ≤ (k : Int) := Int.natCast_nonneg _;have hwk : IntKind.i64.wrap ((k : Int) + 1) = (k : Int) + 1 := IntWalk.i64_in _ (by omega);have hbr : b < wr.heap.size := by omega
    clear hT hOk hx hm;go_upto_region 7 with (fail)
    have O2 : Only [] wr (wr.alloc (.cells #[.int .i64 s, .int .i64 f, .slice A' m cp] 47)) := (Only.refl [] wr).alloc _;have bT := Blk.made wr 47 #[.int .i64 s, .int .i64 f, .slice A' m cp];have HB2 := Hd (O2.blk hB.out (by simp));have HU2 := Hd (O2.blk hU.out (by simp));have HO2 := Hd (hO.out.trans O2);clear a0 a1 a2 O2 hB hU hO;generalize (wr.alloc (.cells #[.int .i64 s, .int .i64 f, .slice A' m cp] 47)) = w2 at *;generalize wr.heap.size = gt at *;have lT := bT.lt;have t0 := bT.at_ 0;have t1 := bT.at_ 1;have t2 := bT.at_ 2;have lB := HB2.out.lt;have b0 := HB2.out.at_ 0;have b2 := HB2.out.at_ 2;simp at t0 t1 t2 b0 b2;clear bT;have bad : txB n0 ⟨s, f, ops⟩ = false → Hid (r = false) := fun hb => Hd (by rw [HR.out]; exact txs_no HX.out (by rw [HN0.out]; exact hb));have hcase : (s < 0 ∧ txB n0 ⟨s, f, ops⟩ = false) ∨ (decide (s < 0) = false ∧ (n0 : Int) ≤ s ∧ txB n0 ⟨s, f, ops⟩ = false) ∨ (decide (s < 0) = false ∧ decide ((n0 : Int) ≤ s) = false ∧ fateB f = false ∧ txB n0 ⟨s, f, ops⟩ = false) ∨
      (decide (s < 0) = false ∧ decide ((n0 : Int) ≤ s) = false ∧ fateB f = true ∧ decide ((20 : Int) < (m : Int)) = true ∧ txB n0 ⟨s, f, ops⟩ = false) ∨
      ∃ j : Nat, s = (j : Int) ∧ j < n0 ∧ fateB f = true ∧ decide ((20 : Int) < (m : Int)) = false ∧ txB n0 ⟨s, f, ops⟩ = true := by
     unfold txB;dsimp only;rw [HMM.out]
     by_cases q1 : s < 0
     ·exact .inl ⟨q1, by rw [decide_eq_false (by omega)]; rfl⟩
     ·by_cases q2 : (n0 : Int) ≤ s
      ·exact .inr (.inl ⟨decide_eq_false q1, q2, by rw [decide_eq_false (by omega)]; rfl⟩)
      ·cases q3 : fateB f with
       | false => exact .inr (.inr (.inl ⟨decide_eq_false q1, decide_eq_false q2, rfl, by simp⟩))
       | true =>
        by_cases q4 : 20 < m
        ·exact .inr (.inr (.inr (.inl ⟨decide_eq_false q1, decide_eq_false q2, rfl, decide_eq_true (by omega), by rw [decide_eq_false (show ¬ m ≤ 20 by omega)]; simp⟩)))
        ·exact .inr (.inr (.inr (.inr ⟨s.toNat, by omega, by omega, rfl, decide_eq_false (by omega), by rw [decide_eq_true (show 0 ≤ s ∧ s < (n0 : Int) by omega), decide_eq_true (show m ≤ 20 by omega)]; rfl⟩)))
    rcases hcase with ⟨q1, q⟩ | ⟨q1, q2, q⟩ | ⟨q1, q2, q3, q⟩ | ⟨q1, q2, q3, q4, q⟩ | ⟨j, rfl, hj, q3, q4, q⟩
    ·obtain rfl := (bad q).out;clear bad q;go_wp2
     go_ret
     exact ⟨rfl, HO2.out⟩
    ·obtain rfl := (bad q).out;clear bad q;go_wp2
     go_ret
     exact ⟨rfl, HO2.out⟩
    ·obtain rfl := (bad q).out;have HF := Hd (HFT.out f w2);rw [q3] at HF;clear bad q q3;go_wp2_with fail
     refine (HF.out).mono ?_;rintro e w3 ⟨rfl, rfl⟩;go_wp2
     go_ret
     exact ⟨rfl, HO2.out⟩
    ·obtain rfl := (bad q).out;have HF := Hd (HFT.out f w2);rw [q3] at HF;clear bad q q3;go_wp2_with fail
     refine (HF.out).mono ?_;rintro e w3 ⟨rfl, rfl⟩;go_wp2
     go_ret
     exact ⟨rfl, HO2.out⟩
    ·have HF := Hd (HFT.out f w2);rw [q3] at HF;have q1 : decide ((j : Int) < 0) = false := by simp
     have q2 : decide ((n0 : Int) ≤ (j : Int)) = false := by simp; omega
     have q5 : (0 : Int) ≤ (j : Int) := by omega
     have q6 : (j : Int) < 20 := by omega
     have lU := HU2.out.lt;have uj := (HU2.out.at_ j).trans (cntC_at 20 _ j (by omega));have gj := HU2.out.free j;have hc : ((h.l.take k).map Tx.s).countP (fun s => decide (s = (j : Int))) ≤ 1000 := by
      have := List.countP_le_length (p := fun s => decide (s = (j : Int))) (l := (h.l.take k).map Tx.s);rw [List.length_map, List.length_take] at this;omega
     have HCS := Hd (cntC_snoc 20 ((h.l.take k).map Tx.s) j (by omega));have HTK : Hid ((h.l.take (k + 1)).map Tx.s = (h.l.take k).map Tx.s ++ [(j : Int)]) := Hd (by rw [List.take_add_one, HX.out]; simp);have HAL := Hd (takeTx_all hall.out HX.out q);generalize ((h.l.take k).map Tx.s).countP (fun s => decide (s = (j : Int))) = cj at *;have hwc : IntKind.i64.wrap ((cj : Int) + 1) = (cj : Int) + 1 := IntWalk.i64_in _ (by omega);clear bad q q3 hall;go_wp2_with fail
     refine (HF.out).mono ?_;rintro e w3 ⟨rfl, rfl⟩;go_wp2
     go_roundw
     case rel =>
      refine ⟨k + 1, by go_num, by omega, HAL, Hd (HB2.out.far (by simp only; omega) _), Hd ?_, Hd (HO2.out.put (fun h => by simp only at h; omega) _)⟩;rw [HTK.out, HCS.out];exact HU2.out.put j _
     case measure => simp [intOf]; omega
   ·have hkn : k = n2 := by omega
    subst hkn;have hd2 : decide ((k : Int) < (k : Int)) = false := by simp
    have hU1 := hU.out;have hA1 := hall.out;rw [List.take_of_length_le (by rw [HN2.out]; exact Nat.le_refl _)] at hU1 hA1;have hrow := row_front hU1 n0;have hcz := cntL_zero 20 (h.l.map Tx.s) n0 h20;have HCI := Hd (contI_any (some ⟨w.heap.size + 1, 0, none⟩) n0 20 _ ((cntL 20 (h.l.map Tx.s)).take n0) 0 wr (by rw [List.length_take, cntL_len]; omega) (by omega) hrow);rw [hcz] at HCI;have HRR : Hid (r = ((List.range n0).all fun i : Nat => decide ((i : Int) ∈ h.l.map Tx.s))) := Hd (by
     rw [HR.out];unfold txsB useB;rw [HN0.out, hA1, HN2.out, decide_eq_true h40]
     rfl)
    have lB := hB.out.lt;have b0 := hB.out.at_ 0;simp at b0;have lU := hU.out.lt;have q5 : (0 : Int) ≤ (n0 : Int) := by omega
    have q6 : (n0 : Int) ≤ 20 := by omega
    clear hU1 hA1 hrow hcz hall hU HR;generalize ((List.range n0).all fun i : Nat => decide ((i : Int) ∈ h.l.map Tx.s)) = q at *;go_wp2_with fail
    refine (HCI.out).mono ?_;rintro e w3 ⟨rfl, rfl⟩;go_wp2
    go_ret
    exact ⟨by rw [HRR.out]; simp, hO.out⟩
 ·have hd : decide ((40 : Int) < (n2 : Int)) = true := by simp; omega
  have hr : txsB h = false := by
   unfold txsB;rw [hn2, decide_eq_false h40]
   rfl
  rw [hr];go_enter Tryz.func59, Tryz.ntmps59;go_wp2
  go_ret
  exact ⟨rfl, HO.out⟩
def opB (n1 : Nat) (x : Op4) : Bool := decide (0 ≤ x.key ∧ x.key < (n1 : Int)) && (mayB x.vk x.vn && (!x.wr || decide (x.vk = 1)))
def keysL (l : List Tx) : List Int := l.flatMap fun t => t.ops.map Op4.key
def opsB (h : Hst) : Bool := h.l.all (fun t => t.ops.all (opB h.ks.length)) && useB h.ks.length (keysL h.l)
theorem keysL_take {l : List Tx} {k : Nat} {t : Tx} (h : l[k]? = some t) : keysL (l.take (k + 1)) = keysL (l.take k) ++ t.ops.map Op4.key := by
 unfold keysL;rw [List.take_add_one, h];simp
theorem keysL_le : ∀ (l : List Tx), (∀ t ∈ l, t.ops.length ≤ 1000) → (keysL l).length ≤ l.length * 1000
 | [], _ => Nat.le_refl _
 | t :: l, h => by
  have h1 := keysL_le l (fun x hx => h x (List.mem_cons_of_mem _ hx));have h2 := h t List.mem_cons_self;unfold keysL at h1 ⊢;rw [List.flatMap_cons, List.length_append, List.length_map, List.length_cons];omega
theorem ops_no {h : Hst} {k j : Nat} {t : Tx} {x : Op4} (hk : h.l[k]? = some t) (hj : t.ops[j]? = some x) (hb : opB h.ks.length x = false) : opsB h = false := by
 unfold opsB;have : h.l.all (fun t => t.ops.all (opB h.ks.length)) = false := by
  rw [List.all_eq_false];refine ⟨t, List.mem_of_getElem? hk, ?_⟩;have : t.ops.all (opB h.ks.length) = false := by
   rw [List.all_eq_false];exact ⟨x, List.mem_of_getElem? hj, by rw [hb]; simp⟩
  rw [this];simp
 rw [this]
 rfl
theorem ops_any (A0 A1 A2 : Option Addr) (n0 n1 n2 c0 c1 c2 B : Nat) (h : Hst) (w : World) (hg : HAt w B A0 A1 A2 h) (hn1 : h.ks.length = n1) (hn2 : h.l.length = n2) (h40 : n1 ≤ 40) (hM : n2 ≤ 1000) (hno : ∀ t ∈ h.l, t.ops.length ≤ 1000) :
  Calls Tryz.prog 60 #[hval A0 A1 A2 n0 n1 n2 c0 c1 c2] w fun e w' => e = .returned (.bool (opsB h)) ∧ Only [] w w' := by
 unfold hval;have HMAY := Hd (fun vk vn w' => vmay_any vk vn w');have HG := Hd hg.r2;have HN1 := Hd hn1;have HN2 := Hd hn2;have HNO := Hd hno;have HO := Hd ((Only.refl [] w).alloc (.cells #[.slice A0 n0 c0, .slice A1 n1 c1, .slice A2 n2 c2] 25));clear hg;obtain ⟨r, hr⟩ : ∃ r, r = opsB h := ⟨_, rfl⟩;rw [← hr];have HR := Hd hr;have HB1 := Hd ((Blk.made w 25 #[.slice A0 n0 c0, .slice A1 n1 c1, .slice A2 n2 c2]).alloc (.cells (cntC 40 []) 113));have HU1 := Hd (Blk.made (w.alloc (.cells #[.slice A0 n0 c0, .slice A1 n1 c1, .slice A2 n2 c2] 25)) 113 (cntC 40 []));have HO1 := Hd (HO.out.alloc (.cells (cntC 40 []) 113));rw [World.size_alloc] at HU1;clear hr hn1 hn2 hno HO;go_enter Tryz.func60, Tryz.ntmps60;go_wp2_with fail
 go_loopw [11] (fun iv wr => ∃ k : Nat, iv = .int .i64 k ∧ k ≤ n2 ∧ Hid ((h.l.take k).all (fun t => t.ops.all (opB n1)) = true) ∧ Hid (Blk wr w.heap.size 25 #[.slice A0 n0 c0, .slice A1 n1 c1, .slice A2 n2 c2]) ∧ Hid (Blk wr (w.heap.size + 1) 113 (cntC 40 (keysL (h.l.take k)))) ∧ Hid (Only [] w wr)) (fun iv _ => n2 - (intOf iv).toNat)
 case atStart => exact ⟨0, rfl, by omega, Hd (by simp), HB1, HU1, HO1⟩
 case round =>
  obtain ⟨k, rfl, hk, hall, hB, hU, hO⟩ := hrel;have hsz := hO.out.size
  by_cases hlt : k < n2
  ·obtain ⟨x, hx⟩ : ∃ x, h.l[k]? = some x := ⟨_, List.getElem?_eq_getElem (by rw [HN2.out]; exact hlt)⟩;obtain ⟨b, off, A', cp, rfl, -, hbw, hT, hOk⟩ := HG.out.at_ hx;obtain ⟨a0, a1, a2⟩ := hT.only hO.out hbw (by simp);have HX := Hd hx;have hm1 := HNO.out x (List.mem_of_getElem? hx);have HKT := Hd (keysL_take hx);have hkl : (keysL (h.l.take k)).length ≤ 1000000 := by
    have h1 := keysL_le (h.l.take k) (fun t ht => HNO.out t (List.mem_of_mem_take ht));rw [List.length_take] at h1;omega
   have HALLN : Hid (x.ops.all (opB n1) = true → ((h.l.take (k + 1)).all (fun t => t.ops.all (opB n1)) = true)) := Hd (fun hxx => takeTx_all hall.out hx hxx);have HROW := Hd hOk.row;have HBADX : Hid (∀ (j : Nat) y, x.ops[j]? = some y → opB n1 y = false → r = false) := Hd (fun j y hj hb => by rw [HR.out]; exact ops_no hx hj (by rw [HN1.out]; exact hb));obtain ⟨s, f, ops⟩ := x;dsimp only at a0 a1 a2 hm1 HKT HALLN HROW HBADX;generalize hm : ops.length = m at *;have HMM := Hd hm;have h01 : (k : Int) < (n2 : Int) := by omega
   have hk0 : (0 : Int) ≤ (k : Int) := Int.natCast_nonneg _;have hwk : IntKind.i64.wrap ((k : Int) + 1) = (k : Int) + 1 := IntWalk.i64_in _ (by omega);have hbr : b < wr.heap.size := by omega
   generalize hK0 : keysL (h.l.take k) = K0 at *;clear hT hOk hx hm hall HX hK0;go_upto_region 5 with (fail)
   have O2 : Only [] wr (wr.alloc (.cells #[.int .i64 s, .int .i64 f, .slice A' m cp] 47)) := (Only.refl [] wr).alloc _;have bT := Blk.made wr 47 #[.int .i64 s, .int .i64 f, .slice A' m cp];have HB2 := Hd (O2.blk hB.out (by simp));have HU2 := Hd (O2.blk hU.out (by simp));have HO2 := Hd (hO.out.trans O2);clear a0 a1 a2 O2 hB hU hO;generalize (wr.alloc (.cells #[.int .i64 s, .int .i64 f, .slice A' m cp] 47)) = w2 at *;generalize wr.heap.size = gt at *;have lT := bT.lt;have t2 := bT.at_ 2;simp at t2;clear bT;go_wp2_with fail
   go_loopw [18] (fun iv wr => ∃ j : Nat, iv = .int .i64 j ∧ j ≤ m ∧ Hid ((ops.take j).all (opB n1) = true) ∧ Hid (Blk wr w.heap.size 25 #[.slice A0 n0 c0, .slice A1 n1 c1, .slice (some ⟨b, off, none⟩) n2 c2]) ∧ Hid (Blk wr (w.heap.size + 1) 113 (cntC 40 (K0 ++ (ops.take j).map Op4.key))) ∧ Hid (Only [] w wr)) (fun iv _ => m - (intOf iv).toNat)
   case atStart => exact ⟨0, rfl, by omega, Hd (by simp), HB2, by simpa using HU2, HO2⟩
   case round =>
    obtain ⟨j, rfl, hj, hall, hB, hU, hO⟩ := hrel;clear HB2 HU2 HO2 t2 lT;have hsz2 := hO.out.size
    by_cases hlt2 : j < m
    ·obtain ⟨y, hy⟩ : ∃ y, ops[j]? = some y := ⟨_, List.getElem?_eq_getElem (by rw [HMM.out]; exact hlt2)⟩;obtain ⟨b', off', rfl, -, hbw', hP⟩ := row_op HROW.out hy;obtain ⟨p0, p1, p2, p3⟩ := hP.only hO.out hbw' (by simp);have HALN : Hid (opB n1 y = true → (ops.take (j + 1)).all (opB n1) = true) := Hd (fun h => takeTx_all hall.out hy h);have HBAD : Hid (opB n1 y = false → r = false) := Hd (HBADX.out j y hy);have HTK : Hid ((ops.take (j + 1)).map Op4.key = (ops.take j).map Op4.key ++ [y.key]) := Hd (by rw [List.take_add_one, hy]; simp);obtain ⟨yw, yk, yv, yn⟩ := y;dsimp only at p0 p1 p2 p3 HTK;have h01 : (j : Int) < (m : Int) := by omega
     have hj0 : (0 : Int) ≤ (j : Int) := Int.natCast_nonneg _;have hwj : IntKind.i64.wrap ((j : Int) + 1) = (j : Int) + 1 := IntWalk.i64_in _ (by omega);have hbr' : b' < wr.heap.size := by omega
     clear hP hy hall;go_upto_region 8 with (fail)
     have O2 : Only [] wr (wr.alloc (.cells #[.bool yw, .int .i64 yk, .int .i64 yv, .int .i64 yn] 70)) := (Only.refl [] wr).alloc _;have bO := Blk.made wr 70 #[.bool yw, .int .i64 yk, .int .i64 yv, .int .i64 yn];have HB2 := Hd (O2.blk hB.out (by simp));have HU2 := Hd (O2.blk hU.out (by simp));have HO2 := Hd (hO.out.trans O2);clear p0 p1 p2 p3 O2 hB hU hO;generalize (wr.alloc (.cells #[.bool yw, .int .i64 yk, .int .i64 yv, .int .i64 yn] 70)) = w2' at *;have hgo : w.heap.size + 1 < wr.heap.size ∨ True := .inr trivial;generalize wr.heap.size = go at *;have HBO := Hd bO;have lO := bO.lt;have o0 := bO.at_ 0;have o1 := bO.at_ 1;have o2 := bO.at_ 2;have o3 := bO.at_ 3;have lB := HB2.out.lt;have b1 := HB2.out.at_ 1;simp at o0 o1 o2 o3 b1;clear bO;have hcase : (yk < 0 ∧ opB n1 ⟨yw, yk, yv, yn⟩ = false) ∨ (decide (yk < 0) = false ∧ (n1 : Int) ≤ yk ∧ opB n1 ⟨yw, yk, yv, yn⟩ = false) ∨ ∃ i : Nat, yk = (i : Int) ∧ i < n1 ∧ opB n1 ⟨yw, yk, yv, yn⟩ = (mayB yv yn && (!yw || decide (yv = 1))) := by
      unfold opB;dsimp only
      by_cases q1 : yk < 0
      ·exact .inl ⟨q1, by rw [decide_eq_false (by omega)]; rfl⟩
      ·by_cases q2 : (n1 : Int) ≤ yk
       ·exact .inr (.inl ⟨decide_eq_false q1, q2, by rw [decide_eq_false (by omega)]; rfl⟩)
       ·exact .inr (.inr ⟨yk.toNat, by omega, by omega, by rw [decide_eq_true (show 0 ≤ yk ∧ yk < (n1 : Int) by omega)]; rfl⟩)
     rcases hcase with ⟨q1, q⟩ | ⟨q1, q2, q⟩ | ⟨i, rfl, hi, q⟩
     ·obtain rfl := HBAD.out q;clear q;go_wp2
      go_ret
      exact ⟨rfl, HO2.out⟩
     ·obtain rfl := HBAD.out q;clear q;go_wp2
      go_ret
      exact ⟨rfl, HO2.out⟩
     ·have HF := Hd (HMAY.out yv yn w2');have q1 : decide ((i : Int) < 0) = false := by simp
      have q2 : decide ((n1 : Int) ≤ (i : Int)) = false := by simp; omega
      have q5 : (0 : Int) ≤ (i : Int) := by omega
      have q6 : (i : Int) < 40 := by omega
      cases hmy : mayB yv yn with
      | false =>
       rw [hmy] at HF q;obtain rfl := HBAD.out q;clear q hmy;go_wp2_with fail
       refine (HF.out).mono ?_;rintro e w3 ⟨rfl, O3⟩;have HO3 := Hd (HO2.out.trans O3);clear O3;go_wp2
       go_ret
       exact ⟨rfl, HO3.out⟩
      | true =>
       rw [hmy] at HF q;have hc : (K0 ++ (ops.take j).map Op4.key).countP (fun s => decide (s = (i : Int))) ≤ 2000000 := by
        have := List.countP_le_length (p := fun s => decide (s = (i : Int))) (l := K0 ++ (ops.take j).map Op4.key);rw [List.length_append, List.length_map, List.length_take] at this;omega
       have HCS := Hd (cntC_snoc 40 (K0 ++ (ops.take j).map Op4.key) i (by omega));have HCA := Hd (cntC_at 40 (K0 ++ (ops.take j).map Op4.key) i (by omega));generalize (K0 ++ (ops.take j).map Op4.key).countP (fun s => decide (s = (i : Int))) = ci at *;have hwc : IntKind.i64.wrap ((ci : Int) + 1) = (ci : Int) + 1 := IntWalk.i64_in _ (by omega);clear hmy
       cases yw with
       | true =>
        by_cases hv1 : yv = 1
        ·subst hv1;have HQ := Hd (HALN.out (by rw [q]; rfl));clear q;go_wp2_with fail
         refine (HF.out).mono ?_;rintro e w3 ⟨rfl, O3⟩;have HO3 := Hd (HO2.out.trans O3);have HB3 := Hd (O3.blk HB2.out (by simp));have HU3 := Hd (O3.blk HU2.out (by simp));have bO3 := O3.blk HBO.out (by simp);clear O3 lO o0 o1 o2 o3 lB b1;have lO := bO3.lt;have o0 := bO3.at_ 0;have o1 := bO3.at_ 1;have o2 := bO3.at_ 2;have lU := HU3.out.lt;have uj := (HU3.out.at_ i).trans HCA.out;have gj := HU3.out.free i;simp at o0 o1 o2;clear bO3;go_wp2
         go_roundw
         case rel =>
          refine ⟨j + 1, by go_num, by omega, HQ, Hd (HB3.out.far (by simp only; omega) _), Hd ?_, Hd (HO3.out.put (fun h => by simp only at h; omega) _)⟩;rw [HTK.out, ← List.append_assoc, HCS.out];exact HU3.out.put i _
         case measure => simp [intOf]; omega
        ·have hv1' : (yv == 1) = false := by simpa using hv1
         have hv1n : (yv != 1) = true := by simpa using hv1
         obtain rfl := HBAD.out (by rw [q, decide_eq_false hv1]; rfl);clear q hv1;go_wp2_with fail
         refine (HF.out).mono ?_;rintro e w3 ⟨rfl, O3⟩;have HO3 := Hd (HO2.out.trans O3);have bO3 := O3.blk HBO.out (by simp);clear O3 lO o0 o1 o2 o3 lB b1;have lO := bO3.lt;have o0 := bO3.at_ 0;have o2 := bO3.at_ 2;simp at o0 o2;clear bO3;go_wp2
         go_ret
         exact ⟨rfl, HO3.out⟩
       | false =>
        have HQ := Hd (HALN.out (by rw [q]; rfl));clear q;go_wp2_with fail
        refine (HF.out).mono ?_;rintro e w3 ⟨rfl, O3⟩;have HO3 := Hd (HO2.out.trans O3);have HB3 := Hd (O3.blk HB2.out (by simp));have HU3 := Hd (O3.blk HU2.out (by simp));have bO3 := O3.blk HBO.out (by simp);clear O3 lO o0 o1 o2 o3 lB b1;have lO := bO3.lt;have o0 := bO3.at_ 0;have o1 := bO3.at_ 1;have lU := HU3.out.lt;have uj := (HU3.out.at_ i).trans HCA.out;have gj := HU3.out.free i;simp at o0 o1;clear bO3;go_wp2
        go_roundw
        case rel =>
         refine ⟨j + 1, by go_num, by omega, HQ, Hd (HB3.out.far (by simp only; omega) _), Hd ?_, Hd (HO3.out.put (fun h => by simp only at h; omega) _)⟩;rw [HTK.out, ← List.append_assoc, HCS.out];exact HU3.out.put i _
        case measure => simp [intOf]; omega
    ·have hjm : j = m := by omega
     subst hjm;have hd2 : decide ((j : Int) < (j : Int)) = false := by simp
     have HQ : Hid ((h.l.take (k + 1)).all (fun t => t.ops.all (opB n1)) = true) := Hd (HALLN.out (by have := hall.out; rwa [List.take_of_length_le (by rw [HMM.out]; exact Nat.le_refl _)] at this));have HUN : Hid (Blk wr (w.heap.size + 1) 113 (cntC 40 (keysL (h.l.take (k + 1))))) := Hd (by
      have := hU.out;rw [List.take_of_length_le (by rw [HMM.out]; exact Nat.le_refl _)] at this;rw [HKT.out];exact this)
     clear hall hU;go_wp2
     go_roundw
     case rel => exact ⟨k + 1, by go_num, by omega, HQ, hB, HUN, hO⟩
     case measure => simp [intOf]; omega
  ·have hkn : k = n2 := by omega
   subst hkn;have hd2 : decide ((k : Int) < (k : Int)) = false := by simp
   have hU1 := hU.out;have hA1 := hall.out;rw [List.take_of_length_le (by rw [HN2.out]; exact Nat.le_refl _)] at hU1 hA1;have hrow := row_front hU1 n1;have hcz := cntL_zero 40 (keysL h.l) n1 h40;have HCI := Hd (contI_any (some ⟨w.heap.size + 1, 0, none⟩) n1 40 _ ((cntL 40 (keysL h.l)).take n1) 0 wr (by rw [List.length_take, cntL_len]; omega) (by omega) hrow);rw [hcz] at HCI;have HRR : Hid (r = ((List.range n1).all fun i : Nat => decide ((i : Int) ∈ keysL h.l))) := Hd (by
    rw [HR.out];unfold opsB useB;rw [HN1.out, hA1]
    rfl)
   have lB := hB.out.lt;have b1 := hB.out.at_ 1;simp at b1;have lU := hU.out.lt;have q5 : (0 : Int) ≤ (n1 : Int) := by omega
   have q6 : (n1 : Int) ≤ 40 := by omega
   clear hU1 hA1 hrow hcz hall hU HR;generalize ((List.range n1).all fun i : Nat => decide ((i : Int) ∈ keysL h.l)) = q at *;go_wp2_with fail
   refine (HCI.out).mono ?_;rintro e w3 ⟨rfl, rfl⟩;go_wp2
   go_ret
   exact ⟨by rw [HRR.out]; simp, hO.out⟩
end Go.Proofs.YthdofaoamljkfaaGreatDoor
