/- Parts. -/
import Derived.Test.YtlemjgjpglmphaaDoorPartOfCardK40
import Derived.Test.YtlemjgjpglmphaaDoorPartOfCardK41
set_option maxRecDepth 10000
set_option maxHeartbeats 16000000
set_option linter.unusedVariables false
set_option linter.unusedSimpArgs false
namespace Go.Proofs.YtlemjgjpglmphaaDoor
open Go.RowKit
attribute [local go_sem ↓] Go.wp_at_zero Go.wp_at_succ
def idxP (ps : List (List Int)) (z : Nat) : Nat := ps.findIdx fun p => decide ((z : Int) ∈ p)
structure InParts (n : Nat) (ps : List (List Int)) : Prop where
 one : ∀ (i : Nat) (p : List Int), ps[i]? = some p → ∀ z : Nat, (z : Int) ∈ p → idxP ps z = i
 got : ∀ z, z < n → idxP ps z < ps.length
 nat : ∀ p ∈ ps, ∀ z ∈ p, ∃ q : Nat, z = (q : Int) ∧ q < n
theorem parts_in {n : Nat} {l : List (Int × Int)} (w : WfE n l) : InParts n (partsL n l) := by
 have hat : ∀ (i : Nat) (p : List Int), (partsL n l)[i]? = some p → ∃ a, ((List.range n).filter (leadB n l))[i]? = some a ∧ p = partL n l a := fun i p h => by
  unfold partsL at h;rw [List.getElem?_map] at h
  cases ha : ((List.range n).filter (leadB n l))[i]? with
  | none => rw [ha] at h; cases h
  | some a => rw [ha] at h; exact ⟨a, rfl, (Option.some.inj h).symm⟩
 have hnd : ((List.range n).filter (leadB n l)).Nodup := List.nodup_range.filter _;refine ⟨fun i p hp z hz => ?_, fun z hz => ?_, fun p hp z hz => ?_⟩
 ·obtain ⟨a, ha, rfl⟩ := hat i p hp;have hi := (List.getElem?_eq_some_iff.1 hp).1;unfold idxP;rw [List.findIdx_eq hi];refine ⟨?_, fun j hj => ?_⟩
  ·rw [(List.getElem?_eq_some_iff.1 hp).2, decide_eq_true_iff]; exact hz
  ·rw [decide_eq_false_iff_not];intro hzj;have hjl : j < (partsL n l).length := by omega
   obtain ⟨b, hb, hpb⟩ := hat j _ (List.getElem?_eq_getElem hjl);rw [hpb] at hzj;obtain ⟨c, hc, _, hs⟩ := mem_part.1 hz;obtain ⟨d, hd, _, ht⟩ := mem_part.1 hzj;obtain rfl : c = d := by omega
   have hla := (List.mem_filter.1 (List.mem_of_getElem? ha)).2;have hlb := (List.mem_filter.1 (List.mem_of_getElem? hb)).2;have hab := lead_one w hla hlb (sim_trans w hs (by rw [sim_symm]; exact ht));subst hab;obtain ⟨h1, e1⟩ := List.getElem?_eq_some_iff.1 ha;obtain ⟨h2, e2⟩ := List.getElem?_eq_some_iff.1 hb;have := (List.pairwise_iff_getElem.1 hnd) j i h2 h1 hj;exact this (e2.trans e1.symm)
 ·unfold idxP;rw [List.findIdx_lt_length];obtain ⟨a, ha, hs, hl⟩ := lead_of w hz;refine ⟨partL n l a, List.mem_map.2 ⟨a, List.mem_filter.2 ⟨List.mem_range.2 ha, hl⟩, rfl⟩, ?_⟩;rw [decide_eq_true_iff];exact mem_part.2 ⟨z, rfl, hz, by rw [sim_symm]; exact hs⟩
 ·unfold partsL at hp;obtain ⟨a, -, rfl⟩ := List.mem_map.1 hp;obtain ⟨b, hb, h1, -⟩ := mem_part.1 hz;exact ⟨b, hb, h1⟩
def whF (ps : List (List Int)) (i : Nat) (T : List Int) (z : Nat) : Int := if idxP ps z < i ∨ (idxP ps z = i ∧ (z : Int) ∈ T) then (idxP ps z : Int) else 0
section
variable {n i j z : Nat} {ps : List (List Int)} {p : List Int}
theorem whF_start : intsF n (fun _ => 0) = intsF n (whF ps 0 []) := intsF_congr fun z _ => by
 unfold whF;rw [if_neg];rintro (h | h)
 ·omega
 ·cases h.2
theorem whF_step (h : InParts n ps) (hp : ps[i]? = some p) (hz : p[j]? = some (z : Int)) : intsF n (whF ps i (p.take (j + 1))) = intsF n fun u => if u = z then (i : Int) else whF ps i (p.take j) u := intsF_congr fun u _ => by
 have hm := List.mem_of_getElem? hz;have hi := h.one i p hp z hm;rw [List.take_add_one, hz]
 by_cases hu : u = z
 ·subst hu;rw [if_pos rfl];unfold whF;rw [if_pos (.inr ⟨hi, by simp⟩), hi]
 ·rw [if_neg hu];unfold whF;have e : ((u : Int) ∈ p.take j ++ (some (z : Int)).toList) ↔ (u : Int) ∈ p.take j := by
   rw [List.mem_append];simp;omega
  simp only [e]
theorem whF_next (h : InParts n ps) (hp : ps[i]? = some p) : intsF n (whF ps i p) = intsF n (whF ps (i + 1) []) := intsF_congr fun u hu => by
 have key : idxP ps u = i → (u : Int) ∈ p := fun e => by
  have hl := h.got u hu;have h4 : decide ((u : Int) ∈ ps[ps.findIdx fun p => decide ((u : Int) ∈ p)]'(hl)) = true := List.findIdx_getElem (w := hl);rw [decide_eq_true_iff] at h4;have e5 : some (ps[ps.findIdx fun p => decide ((u : Int) ∈ p)]'(hl)) = some p := by
   have e' : (ps.findIdx fun p => decide ((u : Int) ∈ p)) = i := e;have h6 := List.getElem?_eq_getElem (l := ps) (i := ps.findIdx fun p => decide ((u : Int) ∈ p)) hl;rw [← h6, e'];exact hp
  rwa [Option.some.inj e5] at h4
 unfold whF;have : (idxP ps u < i ∨ (idxP ps u = i ∧ (u : Int) ∈ p)) ↔ (idxP ps u < i + 1 ∨ (idxP ps u = i + 1 ∧ (u : Int) ∈ ([] : List Int))) := by
  constructor
  ·rintro (h1 | ⟨h1, _⟩)
   ·exact .inl (by omega)
   ·exact .inl (by omega)
  ·rintro (h1 | ⟨_, h1⟩)
   ·rcases Nat.lt_or_ge (idxP ps u) i with h2 | h2
    ·exact .inl h2
    ·exact .inr ⟨by omega, key (by omega)⟩
   ·cases h1
 simp only [this]
theorem whF_end (h : InParts n ps) : intsF n (whF ps ps.length []) = intsF n fun z => (idxP ps z : Int) := intsF_congr fun u hu => by
 unfold whF;rw [if_pos (.inl (h.got u hu))]
end
theorem which_bad (n : Int) (A : Option Addr) (m c : Nat) (l : List (Int × Int)) (w : World) (hr : Row w w.heap.size A (edgeC l)) (hl : l.length = m) (hm : m ≤ 1000) (hT : Tab w) (h00 : 0 < w.heap.size) (hb : mayL n l = false) :
  Calls Tryd.prog 9 #[.int .i64 n, .slice A m c] w fun e w' => e = .returned (.tuple #[.slice none 0 0, .int .i64 2]) ∧ Only [] w w' := by
 have HP := Hd (pof_any n A m c l w hr hl hm hT h00);have hx : partR n l = ([], 2) := by unfold partR; rw [hb]; rfl
 rw [hx] at HP;dsimp only at HP;clear hr hl hT hb hx;go_enter Tryd.func9, Tryd.ntmps9;go_wp2_with fail
 refine (HP.out).mono ?_;rintro e w1 ⟨qs, A1, c1, ⟨rfl, hv, hq, hL⟩, O1⟩;have HO := Hd O1;clear hv hq hL O1 HP;go_wp2
 exact bodyPost_ret (v := .tuple #[.slice none 0 0, .int .i64 2]) (by simp [results, Tryd.results9, go_sem]) rfl ⟨rfl, HO.out⟩
theorem which_good (n : Nat) (A : Option Addr) (m c : Nat) (l : List (Int × Int)) (w : World) (hr : Row w w.heap.size A (edgeC l)) (hl : l.length = m) (hm : m ≤ 1000) (hT : Tab w) (h00 : 0 < w.heap.size) (hg : mayL (n : Int) l = true) :
  Calls Tryd.prog 9 #[.int .i64 (n : Int), .slice A m c] w fun e w' => ∃ b, (e = .returned (.tuple #[.slice (some ⟨b, 0, none⟩) n n, .int .i64 0]) ∧ Blk w' b 3 (intsF n fun z => (idxP (partsL n l) z : Int))) ∧ Only [] w w' := by
 have HP := Hd (pof_any n A m c l w hr hl hm hT h00);have hx : partR (n : Int) l = (partsL n l, 0) := by unfold partR; rw [if_pos hg, Int.toNat_natCast]
 rw [hx] at HP;dsimp only at HP;obtain ⟨q, hqn, hq5, wf, -⟩ := may_wf hg;obtain rfl : n = q := by omega
 have HI := Hd (parts_in wf);obtain ⟨P, hP⟩ : ∃ P, P = partsL n l := ⟨_, rfl⟩;have HPN : Hid (P.length ≤ n ∧ ∀ p ∈ P, p.length ≤ n) := Hd (by
  rw [hP];unfold partsL
  constructor
  ·rw [List.length_map];exact Nat.le_trans (List.length_filter_le _ _) (by simp)
  ·intro p hp;obtain ⟨a, _, rfl⟩ := List.mem_map.1 hp;exact part_len a)
 rw [← hP] at HI HP ⊢;clear hP;have hmk := fun W => make_ints n (by omega) W;clear hr hl hT hg hx wf hqn;go_enter Tryd.func9, Tryd.ntmps9;go_wp2_with fail
 refine (HP.out).mono ?_;rintro e w1 ⟨qs, A1, c1, ⟨rfl, hv, hq, hL⟩, O1⟩;have HRO := Hd (row_of_own hv);have HQ := Hd hq;have HLL := Hd hL;have HO1 := Hd O1;have HOA := Hd ((Only.refl [] w1).alloc (.cells (intsF n fun _ => 0) 3));have HQL : Hid (qs.length ≤ n) := Hd (by
  have e := congrArg List.length hL;rw [List.length_map] at e;rw [e];exact HPN.out.1)
 have HPL : Hid (∀ x ∈ qs, x.L.length ≤ n) := Hd (fun x hx => HPN.out.2 x.L (by rw [← hL]; exact List.mem_map.2 ⟨x, hx, rfl⟩));have hs1 := O1.size;clear hv hq hL O1 HP;go_wp2_with fail
 have HB2 := Hd (Blk.made w1 3 (intsF n fun _ => 0));have HR2 := Hd (HRO.out.only HOA.out (by simp));have HQ2 := Hd (fun (x : LP) (hx : x ∈ qs) => (HQ.out x hx).only HOA.out (by simp));have HO2 := Hd (HO1.out.trans HOA.out);have HNB := Hd (fun (x : LP) (hx : x ∈ qs) => ((HQ.out x hx).head).2.1);clear hmk HOA HRO HQ HO1;obtain ⟨b, hb⟩ : ∃ b, b = w1.heap.size := ⟨_, rfl⟩;generalize (w1.alloc (.cells (intsF n fun _ => 0) 3)) = w2 at *;rw [← hb] at HB2 HNB HR2 ⊢;have hwb : w.heap.size ≤ b := by omega
 clear hb;have HB2' : Hid (Blk w2 b 3 (intsF n (whF P 0 []))) := Hd (by rw [← whF_start]; exact HB2.out);clear HB2;have HPL0 : Hid (P.length = qs.length) := Hd (by rw [← HLL.out, List.length_map]);have HAT : Hid (∀ (i : Nat) (x : LP), qs[i]? = some x → P[i]? = some x.L) := Hd (fun i x h => by rw [← HLL.out, List.getElem?_map, h]; rfl);clear HLL
 go_loopw [26] (fun iv wr => ∃ i : Nat, iv = .int .i64 i ∧ i ≤ qs.length ∧ Hid (Blk wr b 3 (intsF n (whF P i []))) ∧ Hid (Only [b] w2 wr)) (fun iv _ => qs.length - (intOf iv).toNat)
 case atStart => exact ⟨0, rfl, by omega, HB2', Hd (Only.refl _ _)⟩
 case round =>
  obtain ⟨i, rfl, hin, hB, hO⟩ := hrel;clear HB2'
  by_cases hlt : i < qs.length
  ·have h01 : (i : Int) < (qs.length : Int) := by omega
   have hi0 : (0 : Int) ≤ (i : Int) := Int.natCast_nonneg _;have hqn := HQL.out;have hwi : IntKind.i64.wrap ((i : Int) + 1) = (i : Int) + 1 := IntWalk.i64_in _ (by omega);obtain ⟨x, hx⟩ : ∃ x, qs[i]? = some x := ⟨_, List.getElem?_eq_getElem hlt⟩;have HX := Hd (List.mem_of_getElem? hx);have HPI := Hd (HAT.out i x hx);have HXB := Hd (HNB.out x HX.out);have hxn := HPL.out x HX.out;have HOK := Hd ((HQ2.out x HX.out).1);have HNX : Hid (∀ z ∈ x.L, ∃ q : Nat, z = (q : Int) ∧ q < n) := Hd (HI.out.nat x.L (List.mem_of_getElem? HPI.out));have hRo := HR2.out.only hO.out (by intro j hj; simp at hj; omega);obtain ⟨br, off, rfl, -, hbw, hcell⟩ := hRo.open_ (k := i) (by rw [List.length_map]; exact hlt);have e0 := hcell i (.slice (some ⟨x.b, 0, none⟩) x.L.length x.c) (by rw [List.getElem?_map, hx]; rfl);clear hcell hRo hx;obtain ⟨d, hd⟩ : ∃ d, d = x.L.length := ⟨_, rfl⟩;rw [← hd] at e0 hxn;have HD := Hd hd;clear hd;go_wp2_with fail
   go_loopw [33] (fun jv wr => ∃ j : Nat, jv = .int .i64 j ∧ j ≤ d ∧ Hid (Blk wr b 3 (intsF n (whF P i (x.L.take j)))) ∧ Hid (Only [b] w2 wr)) (fun jv _ => d - (intOf jv).toNat)
   case atStart => exact ⟨0, rfl, by omega, hB, hO⟩
   case round =>
    clear hB hO e0 hbw;obtain ⟨j, rfl, hjn, hB, hO⟩ := hrel
    by_cases hlt2 : j < d
    ·have h02 : (j : Int) < (d : Int) := by omega
     have hj0 : (0 : Int) ≤ (j : Int) := Int.natCast_nonneg _;have hwj : IntKind.i64.wrap ((j : Int) + 1) = (j : Int) + 1 := IntWalk.i64_in _ (by omega);obtain ⟨z0, hz⟩ : ∃ z, x.L[j]? = some z := ⟨_, List.getElem?_eq_getElem (by rw [← HD.out]; exact hlt2)⟩;obtain ⟨z, rfl, hzn⟩ := HNX.out z0 (List.mem_of_getElem? hz);have hz0 : (0 : Int) ≤ (z : Int) := Int.natCast_nonneg _;have hzn2 : (z : Int) < (n : Int) := by omega
     have hok := own_only HOK.out hO.out (fun g hg hm => by simp [LP.v, Value.ownBlock] at hg; simp at hm; have := HXB.out; omega);have e1 := (own_cell hok (g := x.b) rfl (j := j) (u := .int .i64 (z : Int)) (by rw [List.getElem?_map, hz]; rfl)).1;have hxl : x.b < wr.heap.size := own_lt hok (by simp [LP.v, Value.ownBlock]);have e2 := (hB.out.at_ z).trans (intsF_at _ hzn);have e3 := hB.out.free z;have hbl := hB.out.lt;have HBN : Hid (Blk (wr.setCell ⟨b, z, none⟩ (.int .i64 (i : Int))) b 3 (intsF n (whF P i (x.L.take (j + 1))))) := Hd (by
      rw [whF_step HI.out HPI.out hz, ← intsF_set _ _ hzn];exact hB.out.put z _)
     have HON : Hid (Only [b] w2 (wr.setCell ⟨b, z, none⟩ (.int .i64 (i : Int)))) := Hd (hO.out.put (p := ⟨b, z, none⟩) (fun _ => by simp) _);clear hok hz hB hO;go_wp2
     go_roundw
     case rel => first | exact ⟨j + 1, by go_num, by omega, HBN, HON⟩ | exact ⟨_, ⟨j + 1, by go_num, by omega, HBN, HON⟩, rfl⟩
     case measure => simp [intOf]; omega
    ·have hjd : d = j := by omega
     have hdd : decide ((d : Int) < (d : Int)) = false := by simp
     have HBN : Hid (Blk wr b 3 (intsF n (whF P (i + 1) []))) := Hd (by
      rw [← whF_next HI.out HPI.out];have := hB.out;rw [← hjd, HD.out, List.take_length] at this;exact this)
     subst hjd;go_wp2
     go_roundw
     case rel => first | exact ⟨i + 1, by go_num, by omega, HBN, hO⟩ | exact ⟨_, ⟨i + 1, by go_num, by omega, HBN, hO⟩, rfl⟩
     case measure => simp [intOf]; omega
  ·have hid : qs.length = i := by omega
   have hdd : decide ((qs.length : Int) < (qs.length : Int)) = false := by simp
   have HBE : Hid (Blk wr b 3 (intsF n fun z => (idxP P z : Int))) := Hd (by
    rw [← whF_end HI.out, HPL0.out, hid];exact hB.out)
   have HOE := Hd (HO2.out.step hO.out (fun k hk hl => by simp at hk; omega));rw [← hid];clear hB hO hid hin hlt;go_wp2
   exact bodyPost_ret (v := .tuple #[.slice (some ⟨b, 0, none⟩) n n, .int .i64 0]) (by simp [results, Tryd.results9, go_sem]) rfl ⟨b, ⟨rfl, HBE.out⟩, HOE.out⟩
end Go.Proofs.YtlemjgjpglmphaaDoor
