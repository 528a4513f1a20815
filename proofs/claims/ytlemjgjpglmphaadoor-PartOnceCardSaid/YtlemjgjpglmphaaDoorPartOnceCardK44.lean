/- Parts. -/
import Derived.Test.YtlemjgjpglmphaaDoorPartOnceCardK40
import Derived.Test.YtlemjgjpglmphaaDoorPartOnceCardK43
set_option maxRecDepth 10000
set_option maxHeartbeats 16000000
set_option linter.unusedVariables false
set_option linter.unusedSimpArgs false
namespace Go.Proofs.YtlemjgjpglmphaaDoor
open Go.RowKit
attribute [local go_sem ↓] Go.wp_at_zero Go.wp_at_succ
theorem quiet_lft {P : Program} {f : FuncId} {args : Array Value} {w : World} {n : Nat} {v : Value}
  (h : Calls P f args (w.drewN n) fun e w' => e = .returned v ∧ w.drewN n = w') : Calls P f args (w.drewN n) fun e w'' => e = .returned v ∧ ∃ m, w'' = w.drewN m :=
 h.mono fun _ _ ⟨he, hm⟩ => ⟨he, n, hm.symm⟩
def goesP (l : List (Int × Int)) (p : List Int) : Bool := decide (1 < p.length) || decide ((headI p, headI p) ∈ l)
theorem lead_first {n : Nat} {l : List (Int × Int)} {a : Nat} (ha : a < n) (h : leadB n l a = true) : ∃ r, partL n l a = (a : Int) :: r := by
 have h1 := part_head ha h;have h2 : (a : Int) ∈ partL n l a := mem_part.2 ⟨a, rfl, ha, sim_refl a⟩
 cases hp : partL n l a with
 | nil => rw [hp] at h2; cases h2
 | cons x r =>
  rw [hp] at h1;exact ⟨r, by rw [← h1]; rfl⟩
theorem goes_round {n : Nat} {l : List (Int × Int)} (w : WfE n l) : (partsL n l).any (goesP l) = roundB n l := by
 rw [Bool.eq_iff_iff, List.any_eq_true];unfold roundB;rw [List.any_eq_true]
 constructor
 ·rintro ⟨p, hp, hg⟩;unfold partsL at hp;obtain ⟨a, ha, rfl⟩ := List.mem_map.1 hp;obtain ⟨h1, h2⟩ := List.mem_filter.1 ha;have han := List.mem_range.1 h1;refine ⟨a, h1, ?_⟩;rw [way_iff w];obtain ⟨r, hr⟩ := lead_first han h2;unfold goesP at hg;rw [hr, Bool.or_eq_true, decide_eq_true_iff, decide_eq_true_iff] at hg;rcases hg with hg | hg
  ·cases r with
   | nil => simp at hg
   | cons y r =>
    have hy : y ∈ partL n l a := by rw [hr]; simp
    obtain ⟨b, rfl, hb, hs⟩ := mem_part.1 hy;have hri := part_rise (n := n) (l := l) a;rw [hr] at hri;have hab := (List.pairwise_cons.1 hri).1 (b : Int) (by simp);obtain ⟨t1, t2⟩ := (sim_iff w a b).1 hs;rcases t1 with t1 | t1
    ·omega
    ·rcases t2 with t2 | t2
     ·omega
     ·exact t1.trans t2
  ·exact .one hg
 ·rintro ⟨a, ha, hw⟩;have han := List.mem_range.1 ha;rw [way_iff w] at hw;obtain ⟨b, hb, hs, hl⟩ := lead_of w han;refine ⟨partL n l b, List.mem_map.2 ⟨b, List.mem_filter.2 ⟨List.mem_range.2 hb, hl⟩, part_congr w (by rw [sim_symm]; exact hs) ▸ rfl⟩, ?_⟩;obtain ⟨r, hr⟩ := lead_first hb hl;unfold goesP;rw [hr, Bool.or_eq_true, decide_eq_true_iff, decide_eq_true_iff]
  cases r with
  | cons y r => exact .inl (by simp)
  | nil =>
   right
   show ((b : Int), (b : Int)) ∈ l
   have one : ∀ c : Nat, c < n → simB n l b c = true → c = b := fun c hc hsc => by
    have : (c : Int) ∈ partL n l b := mem_part.2 ⟨c, rfl, hc, hsc⟩;rw [hr] at this;simp at this;omega
   have hab := one a han (by rw [sim_symm]; exact hs);subst hab;have key : ∀ {x y : Nat}, Way (edR l) x y → x = a → y = a → edR l a a := by
    intro x y hxy
    cases hxy with
    | one e => intro h1 h2; subst h1 h2; exact e
    | more e k =>
     rename_i c
     intro h1 h2;subst h1 h2;have hcn := (wf_lt w e).2;have := one c hcn ((sim_iff w _ _).2 ⟨.edge e, .inr k⟩);subst this;exact e
   exact key hw rfl rfl
theorem pround1_any (x p q n : Nat) (l : List (Int × Int)) (w : World) (xs : LP) (base : Nat) (hx : xs.Ok w base) (h0 : w.cell? ⟨x, 0, none⟩ = some (.pointer (some ⟨p, 0, none⟩))) (hxl : x < w.heap.size) (hl : xs.L.length ≤ 1000)
  (hhas : ∀ (a : Int) k, Calls Tryd.prog 23 #[.pointer (some ⟨p, 0, none⟩), .int .i64 a, .int .i64 a] (w.drewN k) fun e w' => e = .returned (.bool (decide ((a, a) ∈ l))) ∧ w.drewN k = w') :
  Calls Tryd.prog 22 #[xs.v, .pointer (some ⟨x, 0, none⟩)] w fun e w' => e = .returned (.bool (goesP l xs.L)) ∧ ∃ d, w.drewN d = w' := by
 obtain ⟨e0, e1, e2, e3, e4⟩ := hx.head;have HH := Hd (hhas (headI xs.L));have hgo : ∀ b, decide (1 < xs.L.length) = b → goesP l xs.L = (b || decide ((headI xs.L, headI xs.L) ∈ l)) := fun b hb => by unfold goesP; rw [hb]
 clear hhas hx;obtain ⟨b, c, L⟩ := xs;dsimp only at *;unfold LP.v;dsimp only;obtain ⟨m, hm⟩ : ∃ m, m = L.length := ⟨_, rfl⟩;rw [← hm] at e2 hgo hl ⊢;generalize headI L = hd at *;generalize goesP l L = R at *;clear hm;have q0 : (0 : Int) < (m : Int) := by omega
 by_cases h1 : 1 < m
 ·have q1 : (1 : Int) < (m : Int) := by omega
  obtain rfl := hgo true (by simpa using h1);clear HH hgo h1;go_enter Tryd.func22, Tryd.ntmps22;go_wp2_with fail
  go_quiet (fail)
  go_wp2
  go_ret
  exact ⟨rfl, _, rfl⟩
 ·have q1 : ¬ (1 : Int) < (m : Int) := by omega
  obtain rfl := hgo false (by simpa using h1);rw [Bool.false_or];clear hgo h1;go_enter Tryd.func22, Tryd.ntmps22;go_wp2_with fail
  go_quiet ((go_at_call 23; exact quiet_lft (HH.out _)))
  go_wp2
  go_ret
  exact ⟨by show Ending.returned (Value.bool (decide ((1 : Int) < (m : Int)) || decide ((hd, hd) ∈ l))) = _; rw [decide_eq_false (show ¬ (1 : Int) < (m : Int) by omega), Bool.false_or], _, rfl⟩
theorem pindex_any (x p : Nat) (l : List (Int × Int)) (base : Nat) (qs : List LP) (A : Option Addr) (c : Nat) (w : World) (h0 : w.cell? ⟨x, 0, none⟩ = some (.pointer (some ⟨p, 0, none⟩))) (hxl : x < w.heap.size) (hql : qs.length ≤ 1000)
  (hr : Row w w.heap.size A (qs.map LP.v)) (hq : ∀ y ∈ qs, y.Ok w base ∧ y.L.length ≤ 1000)
  (hhas : ∀ (a : Int) w', Only [] w w' → Calls Tryd.prog 23 #[.pointer (some ⟨p, 0, none⟩), .int .i64 a, .int .i64 a] w' fun e w'' => e = .returned (.bool (decide ((a, a) ∈ l))) ∧ w' = w'') :
  Calls Tryd.prog 35 #[.slice A qs.length c, .func (.func 22) #[] #[.pointer (some ⟨x, 0, none⟩)]] w fun e w' => (∃ k : Int, e = .returned (.int .i64 k) ∧ decide (0 ≤ k) = (qs.map LP.L).any (goesP l)) ∧ Only [] w w' := by
 have HR := Hd (fun W (O : Only [] w W) (y : LP) (hy : y ∈ qs) => pround1_any x p 0 0 l W y base ((hq y hy).1.only O (by simp)) ((O.cell (p := ⟨x, 0, none⟩) hxl (by simp)).trans h0) (Nat.lt_of_lt_of_le hxl O.size) (hq y hy).2 (fun a k => hhas a _ (O.trans ((Only.refl [] W).drewN k))));have HRW := Hd hr;clear hhas hr h0 hq;go_enter Tryd.func35, Tryd.ntmps35;go_wp2_with fail
 go_loopw [8] (fun iv wr => ∃ i : Nat, iv = .int .i64 i ∧ i ≤ qs.length ∧ Hid (∀ y ∈ (qs.map LP.L).take i, goesP l y = false) ∧ Hid (Only [] w wr)) (fun iv _ => qs.length - (intOf iv).toNat)
 case atStart => exact ⟨0, rfl, by omega, Hd (by simp), Hd (Only.refl _ _)⟩
 case round =>
  obtain ⟨i, rfl, hin, hF, hO⟩ := hrel
  by_cases hlt : i < qs.length
  ·have h01 : (i : Int) < (qs.length : Int) := by omega
   have hi0 : (0 : Int) ≤ (i : Int) := Int.natCast_nonneg _;have hwi : IntKind.i64.wrap ((i : Int) + 1) = (i : Int) + 1 := IntWalk.i64_in _ (by omega);obtain ⟨y, hy⟩ : ∃ y, qs[i]? = some y := ⟨_, List.getElem?_eq_getElem hlt⟩;have hRo := HRW.out.only hO.out (by simp);obtain ⟨br, off, rfl, -, hbw, hcell⟩ := hRo.open_ (k := i) (by rw [List.length_map]; exact hlt);have e0 := hcell i y.v (by rw [List.getElem?_map, hy]; rfl);have HC := Hd (HR.out wr hO.out y (List.mem_of_getElem? hy));have HY := Hd hy;clear hcell hRo hy
   cases hg : goesP l y.L with
   | true =>
    rw [hg] at HC;have HA : Hid ((qs.map LP.L).any (goesP l) = true) := Hd (List.any_eq_true.2 ⟨y.L, List.mem_map.2 ⟨y, List.mem_of_getElem? HY.out, rfl⟩, hg⟩);clear hg HR;go_wp2_with fail
    refine (HC.out).mono ?_;rintro e w2 ⟨rfl, d, hd⟩;have HO2 : Hid (Only [] w w2) := Hd (by rw [← hd]; exact hO.out.trans ((Only.refl [] wr).drewN d));clear hd HC;go_wp2
    go_ret
    exact ⟨⟨_, rfl, by rw [HA.out]; simp⟩, HO2.out⟩
   | false =>
    rw [hg] at HC;have HF2 : Hid (∀ z ∈ (qs.map LP.L).take (i + 1), goesP l z = false) := Hd (fun z hz => by
     rw [List.take_add_one, List.getElem?_map, HY.out] at hz;rcases List.mem_append.1 hz with h | h
     ·exact hF.out z h
     ·simp at h;rw [h]; exact hg)
    clear hg;go_wp2_with fail
    refine (HC.out).mono ?_;rintro e w2 ⟨rfl, d, hd⟩;have HO2 : Hid (Only [] w w2) := Hd (by rw [← hd]; exact hO.out.trans ((Only.refl [] wr).drewN d));clear hd HC;go_wp2
    go_roundw
    case rel => first | exact ⟨i + 1, by go_num, by omega, HF2, HO2⟩ | exact ⟨_, ⟨i + 1, by go_num, by omega, HF2, HO2⟩, rfl⟩
    case measure => simp [intOf]; omega
  ·have hin : qs.length = i := by omega
   have hd : decide ((i : Int) < (i : Int)) = false := by simp
   have HA : Hid ((qs.map LP.L).any (goesP l) = false) := Hd (by
    rw [List.any_eq_false];intro z hz;have := hF.out z (by rw [List.take_of_length_le (by rw [List.length_map]; omega)]; exact hz);simp [this])
   rw [hin];clear HR hF;go_wp2
   go_ret
   exact ⟨⟨-1, rfl, by rw [HA.out]; decide⟩, hO.out⟩
theorem pcontains_any (x p : Nat) (l : List (Int × Int)) (base : Nat) (qs : List LP) (A : Option Addr) (c : Nat) (w : World) (h0 : w.cell? ⟨x, 0, none⟩ = some (.pointer (some ⟨p, 0, none⟩))) (hxl : x < w.heap.size) (hql : qs.length ≤ 1000)
  (hr : Row w w.heap.size A (qs.map LP.v)) (hq : ∀ y ∈ qs, y.Ok w base ∧ y.L.length ≤ 1000)
  (hhas : ∀ (a : Int) w', Only [] w w' → Calls Tryd.prog 23 #[.pointer (some ⟨p, 0, none⟩), .int .i64 a, .int .i64 a] w' fun e w'' => e = .returned (.bool (decide ((a, a) ∈ l))) ∧ w' = w'') :
  Calls Tryd.prog 21 #[.slice A qs.length c, .func (.func 22) #[] #[.pointer (some ⟨x, 0, none⟩)]] w fun e w' => e = .returned (.bool ((qs.map LP.L).any (goesP l))) ∧ Only [] w w' := by
 have HI := Hd (pindex_any x p l base qs A c w h0 hxl hql hr hq hhas);clear h0 hxl hr hq hhas;go_enter Tryd.func21, Tryd.ntmps21;go_wp2_with fail
 refine (HI.out).mono ?_;rintro e w1 ⟨⟨k, rfl, hk⟩, O1⟩;have HK := Hd hk;have HO := Hd O1;clear hk O1 HI;go_wp2
 go_ret
 exact ⟨by rw [← HK.out]; rfl, HO.out⟩
def proundR (n : Int) (l : List (Int × Int)) : Bool × Int := if mayL n l = true then (roundB n.toNat l, 0) else (false, 2)
theorem pround_any (n : Int) (A : Option Addr) (m c : Nat) (l : List (Int × Int)) (w : World) (hr : Row w w.heap.size A (edgeC l)) (hl : l.length = m) (hm : m ≤ 1000) (hT : Tab w) (h00 : 0 < w.heap.size) :
  Calls Tryd.prog 14 #[.int .i64 n, .slice A m c] w fun e w' => e = .returned (.tuple #[.bool (proundR n l).1, .int .i64 (proundR n l).2]) ∧ Only [] w w' := by
 have bad : mayL n l = false → proundR n l = (false, 2) := fun h => by unfold proundR; rw [h]; rfl
 by_cases hn : n < 0 ∨ 500 < n
 ·have hb : mayL n l = false := by unfold mayL; rw [decide_eq_false (by omega)]; rfl
  rw [bad hb];have HG := Hd (gof_no n A m c w hn);clear bad hb hr hn;go_enter Tryd.func14, Tryd.ntmps14;go_wp2_with fail
  refine (HG.out).mono ?_;rintro e w1 ⟨rfl, rfl⟩;go_wp2
  exact bodyPost_ret (v := .tuple #[.bool false, .int .i64 2]) (by simp [results, Tryd.results14, go_sem]) rfl ⟨rfl, (Only.refl [] w).alloc _⟩
 ·obtain ⟨q, rfl⟩ : ∃ q : Nat, n = q := ⟨n.toNat, by omega⟩;have hq : q ≤ 500 := by omega
  have HG := Hd (gof_any q A m c l w hq hr hl hm);have HT := Hd hT;have hmy : mayL (q : Int) l = l.all (goodE q) := by unfold mayL; rw [decide_eq_true (by omega), Bool.true_and, Int.toNat_natCast]
  clear hr hn hT hl
  cases hgd : l.all (goodE q) with
  | false =>
   rw [bad (by rw [hmy]; exact hgd)];have HGD := Hd hgd;clear hgd hmy bad;go_enter Tryd.func14, Tryd.ntmps14;go_wp2_with fail
   refine (HG.out).mono ?_;rintro e w1 ⟨O1, ⟨-, rfl⟩ | ⟨hgd, -, -⟩⟩
   ·have HO1 := Hd O1;clear HG O1;go_wp2
    exact bodyPost_ret (v := .tuple #[.bool false, .int .i64 2]) (by simp [results, Tryd.results14, go_sem]) rfl ⟨rfl, HO1.out.alloc _⟩
   ·rw [HGD.out] at hgd
    cases hgd
  | true =>
   have hres : proundR (q : Int) l = (roundB q l, 0) := by unfold proundR; rw [hmy, hgd, if_pos rfl, Int.toNat_natCast]
   rw [hres];dsimp only;have HGD := Hd hgd;have HWF := Hd (wf_good hgd);clear hres hgd hmy bad;go_enter Tryd.func14, Tryd.ntmps14;go_wp2_with fail
   refine (HG.out).mono ?_;rintro e w1 ⟨O1, ⟨hgd, -⟩ | ⟨-, rfl, fp, hGr, hfp⟩⟩
   ·rw [HGD.out] at hgd
    cases hgd
   have HO1 := Hd O1;have HGR := Hd hGr;have hs1 := O1.size;clear HG hGr hfp O1;go_wp2_with fail
   have OA := (Only.refl [] w1).alloc (.cells #[.pointer (some ⟨w.heap.size, 0, none⟩)] 40);have HX2 := Hd (Blk.made w1 40 #[.pointer (some ⟨w.heap.size, 0, none⟩)]);have HO2 := Hd (HO1.out.trans OA);have HGR2 := Hd (HGR.out.only OA (by simp));have HT2 := Hd (aI (HT.out.only h00 HO2.out (by simp)) (Nat.lt_of_lt_of_le h00 HO2.out.size));have HP := Hd (parts_gr q w.heap.size l fp _ hq HGR2.out HGD.out HT2.out.1 HT2.out.2);clear OA HO1 HGR HT;generalize (w1.alloc (.cells #[.pointer (some ⟨w.heap.size, 0, none⟩)] 40)) = w2 at *;refine (HP.out).mono ?_;rintro e w3 ⟨qs, A', c', ⟨rfl, h1, h2, h3⟩, O3⟩;have hpl : qs.length ≤ q := by
    have e := congrArg List.length h3;rw [List.length_map] at e;rw [e];unfold partsL;rw [List.length_map];exact Nat.le_trans (List.length_filter_le _ _) (by simp)
   have hX := O3.blk HX2.out (by simp);have hGR := HGR2.out.only O3 (by simp);have HC := Hd (pcontains_any w1.heap.size w.heap.size l w2.heap.size qs A' c' w3 (by have := hX.at_ 0; simpa using this) hX.lt (by omega) (row_of_own h1) (fun y hy => ⟨h2 y hy, by
    have hy2 : y.L ∈ partsL q l := by rw [← h3]; exact List.mem_map.2 ⟨y, hy, rfl⟩
    unfold partsL at hy2;obtain ⟨a, _, e⟩ := List.mem_map.1 hy2;rw [← e];have := part_len (n := q) (l := l) a;omega⟩) (fun a w' O => by
     have := ghas_any w.heap.size q (ofS q l).1 (ofS q l).2.1 (ofS q l).2.2 fp a a w' (hGR.only O (by simp));rw [rel_has (rel_of hq l).1 hq] at this;have hs : ((a, a) ∈ (ofS q l).2.2) ↔ (a, a) ∈ l := by rw [(rel_of hq l).2]; exact mem_rof HGD.out (a, a)
     rw [decide_eq_decide.2 hs] at this;exact this))
   rw [h3, goes_round HWF.out] at HC;have HO3 := Hd (HO2.out.trans O3);clear h1 h2 h3 O3 hX hGR HP HX2 HGR2 HT2 HO2;go_wp2_with fail
   refine (HC.out).mono ?_;rintro e w4 ⟨rfl, O4⟩;have HO4 := Hd (HO3.out.trans O4);clear O4 HC HO3;go_wp2
   exact bodyPost_ret (v := .tuple #[.bool (roundB q l), .int .i64 0]) (by simp [results, Tryd.results14, go_sem]) rfl ⟨rfl, HO4.out⟩
end Go.Proofs.YtlemjgjpglmphaaDoor
