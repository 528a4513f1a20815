/- Parts. -/
import Derived.Test.YtghimogdeijgdaaGreatDoorLaw17AllK26
import Derived.Shelf.Slices.Turned
import Derived.Ground.Names2Prog
import Derived.Shelf.Slices.Clone
import Derived.Test.YtghimogdeijgdaaGreatDoorLaw17AllK19
set_option maxRecDepth 10000
set_option maxHeartbeats 16000000
set_option linter.unusedVariables false
set_option linter.unusedSimpArgs false
namespace Go.Proofs.YtghimogdeijgdaaGreatDoor
open Go.RowKit
open Go.Lib hiding intOf
attribute [local go_sem ↓] Go.wp_at_zero Go.wp_at_succ
theorem sortf_own (w0 w : World) (g cap n : Nat) (cur : Array Value) (fair : List ByteArray) (hl : fair.length = n) (hnm : ∀ b ∈ fair, isName b = true) (hN : n ≤ 1000) (hb : Blk w g 9 cur) (ht : cur.toList.take (n * 1) = strs fair) (hg : w0.heap.size ≤ g) (h0 : Below w0.heap.size w0 w) (hT : UTabs w0) :
  Calls Tryz.prog 122 #[.slice (some ⟨g, 0, none⟩) n cap, .func (.func 123) #[] #[]] w fun e w' => e = .returned (.tuple #[]) ∧ Below w0.heap.size w0 w' ∧ g < w'.heap.size ∧
   ∃ bs : List ByteArray, bs.length = n ∧ bs.Perm fair ∧ bs.Pairwise (fun a b => lessB b a = false) ∧ ∀ j, j < n → w'.cell? ⟨g, 0 + j, none⟩ = some (.string (bs.getD j ⟨#[]⟩)) ∧ w'.frozen? ⟨g, 0 + j, none⟩ = false := by
 letI : Inhabited NameT := ⟨⟨⟨#[97]⟩, name_a⟩⟩
 obtain ⟨dl, hdl⟩ : ∃ dl : List NameT, dl.map (fun x : NameT => x.1) = fair := by
  refine ⟨fair.attach.map fun x => (⟨x.1, hnm x.1 x.2⟩ : NameT), ?_⟩;rw [List.map_map];exact List.attach_map_subtype_val fair
 have hdn : dl.length = n := by rw [← hl, ← hdl, List.length_map]
 have hget : ∀ j, j < n → ∀ e : List NameT, e.length = n → encN (e.toArray[j]!) = .string ((e.map fun x : NameT => x.1).getD j ⟨#[]⟩) := by
  intro j hj e he;rw [getElem!_pos e.toArray j (by simpa [he] using hj), List.getD_eq_getElem?_getD, List.getElem?_map, List.getElem?_eq_getElem (by omega)]
  rfl
 have hH : Go.Sort.Holds encN w g 0 dl.toArray := by
  intro j hj;have hj2 : j < n := by simpa [hdn] using hj
  refine ⟨?_, hb.free _⟩;rw [hget j hj2 dl hdn, hdl, hb.at_, Nat.zero_add];have h1 : (cur.toList.take (n * 1))[j]? = some (.string (fair.getD j ⟨#[]⟩)) := by
   rw [ht, strs, List.getElem?_map, List.getD_eq_getElem?_getD, List.getElem?_eq_getElem (by omega)]
   rfl
  rw [List.getElem?_take, if_pos (by omega)] at h1;rw [← Array.getElem?_toList];exact h1
 have hlt := hb.lt;have hws : w0.heap.size ≤ w.heap.size := by omega
 have hcmp : CmpLays1 Tryz.prog 123 #[] encN cmpN g 0 dl.toArray.size w := by
  intro m os dk hdk x y;have h := compare_ex x.1 y.1 (sortWorld encN w g 0 m dk os) (by have := name_size x.2; omega) (by have := name_size y.2; omega) (Utf8Tabs_below hT (below_sortWorld encN w g 0 m dk os h0 hg hws));have e : (#[encN x, encN y] ++ #[] : Array Value) = #[.string x.1, .string y.1] := by simp [encN]
  rw [e];exact h.mono fun e w' ⟨he, hx⟩ => ⟨he, hx.grown⟩
 have h := Any.slices_SortFunc Tryz.laysSort encN (fun _ => rfl) cmpN ltN_swo 123 #[] g 0 cap dl.toArray w (enters_of Tryz.func123 (by kernel_rfl) rfl) hcmp hH hlt (by simp [hdn]; omega);have hsz : dl.toArray.size = n := by simp [hdn]
 rw [hsz] at h;refine Calls.mono h ?_;rintro e w' ⟨rfl, d', q, os, ⟨hp1, -, hp2⟩, hso, rfl⟩;obtain ⟨ms⟩ := d';have hmn : ms.length = n := by simpa [hdn] using hp1
 have hx1 : (dl.toArray.extract 0 n).toList = dl := by simp [← hdn]
 have hx2 : ((Array.mk ms).extract 0 n).toList = ms := by simp [← hmn]
 rw [hx1, hx2] at hp2;refine ⟨rfl, ?_, ?_, ms.map (fun x : NameT => x.1), by rw [List.length_map, hmn], ?_, ?_, ?_⟩
 ·exact below_sortWorld encN w g 0 q _ os h0 hg hws
 ·show g < (w.heap.modify g _ ++ os).size
  rw [Array.size_append, Array.size_modify];omega
 ·rw [← hdl];exact hp2.map _
 ·rw [List.pairwise_map, List.pairwise_iff_getElem];intro i j hi hj hij;have h2 := hso i j (Nat.zero_le _) hij (by omega);rw [ltN_eq, getElem!_pos (Array.mk ms) i (by simpa using hi), getElem!_pos (Array.mk ms) j (by simpa using hj)] at h2;exact h2
 ·intro j hj;have hdk : (ms.toArray).size = dl.toArray.size := by simp [hmn, hdn]
  have hh : Go.Sort.Holds encN (sortWorld encN w g 0 q ms.toArray os) g 0 ms.toArray :=
   Go.Sort.holds_grow encN (Go.Sort.putRow encN (Go.Sort.ahead w q) g 0 ms.toArray) os g 0 ms.toArray (by show g < (w.heap.modify g _).size; rw [Array.size_modify]; exact hlt) (Go.Sort.holds_putRow encN (Go.Sort.ahead w q) g 0 dl.toArray ms.toArray (Go.Sort.holds_ahead encN w q g 0 dl.toArray hH) hdk)
  have h2 := hh j (by simpa [hmn] using hj);rw [hget j hj ms hmn] at h2;exact h2
theorem ins_none (fv : Value) (w : World) :
  Calls Tryz.prog 127 #[.slice none 0 0, .int .i64 0, .int .i64 0, fv] w fun e w' => e = .returned (.tuple #[]) ∧ w = w' := by
 go_enter Tryz.func127, Tryz.ntmps127;go_wp2
 refine wp_loop_rounds 1 ?_;rw [rounds_succ];go_wp2
 go_end0
 exact ⟨rfl, rfl⟩
theorem pdq_none (lim : Int) (fv : Value) (w : World) :
  Calls Tryz.prog 125 #[.slice none 0 0, .int .i64 0, .int .i64 0, .int .i64 lim, fv] w fun e w' => e = .returned (.tuple #[]) ∧ w = w' := by
 have HI := Hd (fun w' => ins_none fv w');go_enter Tryz.func125, Tryz.ntmps125;go_wp2
 refine wp_loop_rounds 1 ?_;rw [rounds_succ];go_wp2_with fail
 refine (HI.out _).mono ?_;rintro e w' ⟨rfl, rfl⟩;go_wp2
 (try simp only [Exit.inBlock, Exit.then]); refine bodyPost_ret (results_none rfl _ _ _) rfl ?_
 exact ⟨rfl, rfl⟩
theorem len_none (w : World) : Calls Tryz.prog 126 #[.int .u64 0] w fun e w' => e = .returned (.int .i64 0) ∧ w' = w :=
 Any.bits_Len (SlLaysF0.n15.bits (P := Tryz.prog) (ρ := Tryz.laysSort_ren) { Tryz.laysSort with }) 0 w (by omega) (by omega)
theorem sortf_none (fv : Value) (w : World) :
  Calls Tryz.prog 122 #[.slice none 0 0, fv] w fun e w' => e = .returned (.tuple #[]) ∧ w = w' := by
 have HP := Hd (fun w' => pdq_none 0 fv w');have HL := Hd (fun w' => len_none w');have hw : IntKind.u64.wrap 0 = 0 := by rfl
 go_enter Tryz.func122, Tryz.ntmps122;go_wp2_with fail
 refine (HL.out _).mono ?_;rintro e w' ⟨rfl, rfl⟩;go_wp2_with fail
 refine (HP.out _).mono ?_;rintro e w' ⟨rfl, rfl⟩;go_wp2
 go_end0
 exact ⟨rfl, rfl⟩
theorem below_cells {B b : Nat} {a : World} (hb : B ≤ b) : ∀ (vs : List Value) (o : Nat) (w : World), Below B a w → Below B a (w.setCells b o vs)
 | [], _, _, h => h
 | v :: vs, o, w, h => by
  refine below_cells hb vs (o + 1) _ ⟨h.os, h.tape, h.output, by simpa [World.setCell] using h.size, fun k hk => ?_⟩;rw [Below.heap_setCell w _ v k (by show k ≠ b; omega)];exact h.block k hk
theorem size_cells (b : Nat) : ∀ (vs : List Value) (o : Nat) (w : World), (w.setCells b o vs).heap.size = w.heap.size
 | [], _, _ => rfl
 | v :: vs, o, w => by
  show ((w.setCell ⟨b, o, none⟩ v).setCells b (o + 1) vs).heap.size = _
  rw [size_cells b vs (o + 1) _];simp [World.setCell]
theorem strsOf_list (bs : List ByteArray) (n : Nat) (h : bs.length = n) : strsOf (fun j => bs.getD j ⟨#[]⟩) n = bs.map by_ := by
 unfold strsOf
 apply List.ext_getElem
 ·simp [h]
 ·intro i h1 h2;simp only [List.getElem_map, List.getElem_range];rw [List.getD_eq_getElem?_getD, List.getElem?_eq_getElem (by simpa using h2)]
  rfl
theorem compactf_own (w0 w : World) (g cap n : Nat) (l bs : List ByteArray) (hl : bs.length = n) (hN : n ≤ 1000) (hc : n ≤ cap) (hn : ∀ b ∈ bs, isName b = true) (hs : bs.Pairwise fun a b => lessB b a = false) (hm : ∀ y, y ∈ bs ↔ y ∈ l ∧ isName y = true)
  (hcell : ∀ j, j < n → w.cell? ⟨g, 0 + j, none⟩ = some (.string (bs.getD j ⟨#[]⟩)) ∧ w.frozen? ⟨g, 0 + j, none⟩ = false) (hg : w0.heap.size ≤ g) (hlt : g < w.heap.size) (h0 : Below w0.heap.size w0 w) :
  Calls Tryz.prog 124 #[.slice (some ⟨g, 0, none⟩) n cap] w fun e w' => e = .returned (.slice (some ⟨g, 0, none⟩) (sortB l).length cap) ∧ Below w0.heap.size w0 w' ∧ Row w' w'.heap.size (some ⟨g, 0, none⟩) (strs (sortB l)) := by
 have h := Any.slices_Compact_string_cells Tryz.laysCompact g 0 n cap (fun j => bs.getD j ⟨#[]⟩) w (by omega) hc (fun j hj => (hcell j hj).1) (fun j hj => (hcell j hj).2);rw [strsOf_list bs n hl] at h;have hcs := compact_sort l bs hn hs hm;have hle := compact_length_le (bs.map by_);rw [List.length_map, hl] at hle;generalize compact (bs.map by_) = ys at *;have hlen : (sortB l).length = ys.length := by rw [← hcs, List.length_map]
 rw [hlen];refine Calls.mono h ?_;rintro e w' ⟨rfl, q, rfl⟩;refine ⟨rfl, below_cells hg _ _ _ ⟨h0.os, h0.tape, h0.output, h0.size, h0.block⟩, ?_⟩;have hcells := cells_after_strs (W := w) (b := g) (off := 0) (q := q) (m := n) (ys := ys ++ List.replicate (n - ys.length) []) (Nat.le_refl n) (by simp; omega) (fun j hj => (hcell j hj).1);refine .inr ⟨g, 0, rfl, ?_, ?_, fun j u hu => ?_⟩
 ·rw [size_cells]; exact hlt
 ·exact Nat.le_refl _
 ·rw [← hcs, strs, List.map_map, List.getElem?_map] at hu
  cases hy : ys[j]? with
  | none => rw [hy] at hu; cases hu
  | some y =>
   rw [hy] at hu;obtain rfl := Option.some.inj hu;have hj : j < ys.length := (List.getElem?_eq_some_iff.1 hy).1;rw [hcells j (by omega)];unfold strAfter;rw [if_pos (by rw [List.length_append]; omega), List.getD_eq_getElem?_getD, List.getElem?_append_left hj, hy]
   rfl
theorem sorted_new (A : Option Addr) (n c B : Nat) (zs : List ByteArray) (w : World) (hn : zs.length = n) (hN : n ≤ 1000) (hz : ∀ z ∈ zs, z.size ≤ 9223372036854775807) (hA : Row w B A (strs zs)) (hT : UTabs w) :
  Calls Tryz.prog 121 #[.slice A n c] w fun e w' => Only [] w w' ∧ ∃ A' m c', e = .returned (.slice A' m c') ∧ (sortB zs).length = m ∧ Row w' w'.heap.size A' (strs (sortB zs)) ∧ ∀ b, A' = some b → w.heap.size ≤ b.block := by
 obtain ⟨i0, hi, hz0, hz1, hz2⟩ := info_parts tinfo_string;have HIS := Hd (fun k z w' (h : Only [] w w') (hz' : zs[k]? = some z) => is_any z w' (hz z (List.mem_of_getElem? hz')) (hT.only h));have HT := Hd hT;have HN := Hd hn;have HROW := Hd hA;clear hz hT hn hA;go_enter Tryz.func121, Tryz.ntmps121;go_wp2_with fail
 go_loopw [3, 8] (fun V iv wr => ∃ (k m : Nat), iv = .int .i64 k ∧ k ≤ n ∧ m ≤ k ∧ Hid (((zs.take k).filter isName).length = m) ∧ Hid (wr.ownsRow w.heap.size 9 1 V m (strs ((zs.take k).filter isName))) ∧ Hid (Only [] w wr)) (fun _ iv _ => n - (intOf iv).toNat)
 case atStart => exact ⟨0, 0, rfl, by omega, by omega, Hd rfl, Hd ⟨rfl, .inl ⟨rfl, rfl⟩⟩, Hd (Only.refl [] w)⟩
 case round =>
  obtain ⟨k, m, rfl, hk, hm, HM, HOWN, HO⟩ := hrel
  by_cases hlt : k < n
  ·have h01 : (k : Int) < (n : Int) := by omega
   have hk0 : (0 : Int) ≤ (k : Int) := Int.natCast_nonneg _;have hwk : IntKind.i64.wrap ((k : Int) + 1) = (k : Int) + 1 := IntWalk.i64_in _ (by omega);obtain ⟨b, off, rfl, hbB, hbw, hcell⟩ := HROW.out.open_ (k := k) (by rw [strs, List.length_map, HN.out]; exact hlt);obtain ⟨l, hl⟩ : ∃ l, zs[k]? = some l := ⟨_, List.getElem?_eq_getElem (by rw [HN.out]; exact hlt)⟩;have hck : wr.cell? ⟨b, off + k, none⟩ = some (.string l) := (HO.out.cell (p := ⟨b, off + k, none⟩) hbw (by simp)).trans (hcell k _ (by rw [strs, List.getElem?_map, hl]; rfl));have HI := Hd (HIS.out k l wr HO.out hl);have hwsz := HO.out.size;obtain ⟨v, hv⟩ : ∃ v, v = isName l := ⟨_, rfl⟩;rw [← hv] at HI;have HV := Hd hv;have HLK := Hd hl;clear hcell hl hv
   cases v with
   | true =>
    have HTK : Hid ((zs.take (k + 1)).filter isName = (zs.take k).filter isName ++ [l]) := Hd (by
     rw [List.take_add_one, HLK.out, List.filter_append]
     congr 1
     simp [HV.out.symm])
    have hlen : (strs ((zs.take k).filter isName)).length = m := by rw [strs, List.length_map, HM.out]
    go_wp2_with fail
    refine (HI.out).mono ?_;rintro e w2 ⟨rfl, hO2⟩;have HOWN2 := Hd (own_only HOWN.out hO2 (by simp));have HO2 := Hd (HO.out.trans hO2);have hw2 := hO2.size;clear hO2;go_wp2_with (at_builtin; refine wpList_append_row _ rfl (.tmp 14) (.tmp 16) _ rfl w.heap.size 9 i0 _ 1 16 Tryz.underlying22 hi hz0 hz1 hz2 rfl (by omega) _ m (strs ((zs.take k).filter isName)) rfl (own_only HOWN2.out ((Only.refl [] _).alloc _) (by simp)) (w2.heap.size + 1) (some ⟨w2.heap.size, 0, none⟩) 1 1 [.string l] (by rfl) (by rfl) (row_lit w2 9 #[.string l]) (by simp [Value.oneCell']) (by unfold maxLen; omega) (by omega) (by simp; omega) ?_; intro v3 w3 hown3 hgrow hat)
    have REL : w3.ownsRow w.heap.size 9 1 v3 (m + 1) (strs ((zs.take (k + 1)).filter isName)) ∧ Only [] w w3 ∧ ((zs.take (k + 1)).filter isName).length = m + 1 := by
     refine ⟨?_, (HO2.out.alloc _).step (only_grown hgrow) (own_new HOWN2.out), ?_⟩
     ·rw [HTK.out];have e : strs ((zs.take k).filter isName ++ [l]) = strs ((zs.take k).filter isName) ++ [.string l] := by simp [strs]
      rw [e];exact hown3
     ·rw [HTK.out, List.length_append, HM.out]
      rfl
    have HREL := Hd REL;clear REL hown3 hgrow hat hlen;go_wp2
    go_roundw
    case rel => exact ⟨k + 1, m + 1, by go_num, by omega, by omega, Hd HREL.out.2.2, Hd HREL.out.1, Hd HREL.out.2.1⟩
    case measure => simp [intOf]; omega
   | false =>
    go_wp2_with fail
    refine (HI.out).mono ?_;rintro e w2 ⟨rfl, hO2⟩;have HOWN2 := Hd (own_only HOWN.out hO2 (by simp));have HO2 := Hd (HO.out.trans hO2);have HTK2 : Hid ((zs.take (k + 1)).filter isName = (zs.take k).filter isName) := Hd (by
     rw [List.take_add_one, HLK.out, List.filter_append];simp [HV.out.symm])
    clear hO2;go_wp2
    go_roundw
    case rel => exact ⟨k + 1, m, by go_num, by omega, by omega, Hd (by rw [HTK2.out]; exact HM.out), Hd (by rw [HTK2.out]; exact HOWN2.out), HO2⟩
    case measure => simp [intOf]; omega
  ·have hkn : k = n := by omega
   subst hkn;have hd : decide ((k : Int) < (k : Int)) = false := by simp
   have HALL : Hid ((zs.take k).filter isName = zs.filter isName) := Hd (by rw [List.take_of_length_le (by rw [HN.out]; exact Nat.le_refl _)]);have HFM : Hid (∀ y, y ∈ (zs.take k).filter isName ↔ y ∈ zs ∧ isName y = true) := Hd (fun y => by rw [HALL.out, List.mem_filter]);generalize (zs.take k).filter isName = fair at *;obtain ⟨hl0, hv⟩ := HOWN.out;rcases hv with ⟨hv, hm0⟩ | ⟨g, cap, cur, hv, hbase, hg, hnc, hcm, hsz, ht⟩
   ·subst hv;subst hm0;have hfe : fair = [] := List.eq_nil_of_length_eq_zero HM.out;subst hfe;have HS := Hd (fun w' => sortf_none (.func (.func 123) #[] #[]) w');have HC := Hd (fun w' => (Any.slices_Compact_string_empty Tryz.laysCompact none 0 w'));have HE : Hid (sortB zs = []) := Hd (by
     have := (sortB_names zs).2
     cases hs : sortB zs with
     | nil => rfl
     | cons y t =>
      rw [hs] at this;have h1 := (HFM.out y).2 ((this y).1 (List.mem_cons_self ..))
      cases h1)
    clear hl0 HOWN;go_wp2_with fail
    refine (HS.out _).mono ?_;rintro e w5 ⟨rfl, rfl⟩;go_wp2_with fail
    refine (HC.out _).mono ?_;rintro e w6 ⟨rfl, rfl⟩;go_wp2
    go_ret
    exact ⟨HO.out, none, 0, 0, rfl, by rw [HE.out]; rfl, by rw [HE.out]; exact .inl rfl, fun b h => by cases h⟩
   ·subst hv;have h0 : Below w.heap.size w wr := HO.out.below (Nat.le_refl _) (by simp);have HS := Hd (sortf_own w wr g cap m cur fair HM.out (fun b hb => ((HFM.out b).1 hb).2) (by omega) hg ht hbase h0 HT.out);have HC := Hd (fun w' bs hl hc hn hs hm' hcell hlt h0' => compactf_own w w' g cap m zs bs hl (by omega) hc hn hs hm' hcell hbase hlt h0');have HCC := Hd hnc;have HBASE := Hd hbase;clear hl0 HOWN hg ht hbase hsz h0 hnc hcm;go_wp2_with fail
    refine (HS.out).mono ?_;rintro e w5 ⟨rfl, hb5, hg5, bs, hbl, hbp, hbs, hbc⟩;have HC5 := Hd (HC.out w5 bs hbl HCC.out (fun b hb => ((HFM.out b).1 (hbp.mem_iff.1 hb)).2) hbs (fun y => by rw [hbp.mem_iff, HFM.out]) hbc hg5 hb5);clear hb5 hg5 hbl hbp hbs hbc;go_wp2_with fail
    refine (HC5.out).mono ?_;rintro e w6 ⟨rfl, hb6, hrow⟩;have HB6 := Hd hb6;have HR6 := Hd hrow;clear hb6 hrow;go_wp2
    go_ret
    exact ⟨Only.of_below HB6.out [], _, _, _, rfl, rfl, HR6.out, fun b h => by cases h; exact HBASE.out⟩
end Go.Proofs.YtghimogdeijgdaaGreatDoor
namespace Go.Proofs
open Go.Shelf
def Tryz.laysIndex_ren : Go.Shelf.Ren := ⟨fun | 109 => 107 | n => n, fun | 31 => 22 | 9 => 9 | 3 => 3 | 0 => 0 | 4 => 4 | n => n, fun | n => n⟩
theorem Tryz.laysIndex : Go.Proofs.Lays.n109 Tryz.prog Tryz.laysIndex_ren := {
 mixed := by kernel_rfl
 f109 := Tryz.func107.trans (congrArg some (by kernel_rfl))
 t0 := Tryz.underlying0
 a0 := Tryz.isAgg0
 z0 := Tryz.sizeOf0
 v0 := Tryz.zeroValue0
 t3 := Tryz.underlying3
 a3 := Tryz.isAgg3
 z3 := Tryz.sizeOf3
 v3 := Tryz.zeroValue3
 t4 := Tryz.underlying4
 a4 := Tryz.isAgg4
 z4 := Tryz.sizeOf4
 v4 := Tryz.zeroValue4
 t9 := Tryz.underlying9
 a9 := Tryz.isAgg9
 z9 := Tryz.sizeOf9
 v9 := Tryz.zeroValue9
 t31 := Tryz.underlying22
 a31 := Tryz.isAgg22
 z31 := Tryz.sizeOf22
 v31 := Tryz.zeroValue22 }
def Tryz.laysClone_ren : Go.Shelf.Ren := ⟨fun | 16 => 24 | n => n, fun | 24 => 22 | 9 => 9 | 4 => 4 | n => n, fun | n => n⟩
theorem Tryz.laysClone : Go.Proofs.Lays2.n16 Tryz.prog Tryz.laysClone_ren := {
 mixed := by kernel_rfl
 f16 := Tryz.func24.trans (congrArg some (by kernel_rfl))
 t4 := Tryz.underlying4
 a4 := Tryz.isAgg4
 z4 := Tryz.sizeOf4
 v4 := Tryz.zeroValue4
 t9 := Tryz.underlying9
 a9 := Tryz.isAgg9
 z9 := Tryz.sizeOf9
 v9 := Tryz.zeroValue9
 t24 := Tryz.underlying22
 a24 := Tryz.isAgg22
 z24 := Tryz.sizeOf22
 v24 := Tryz.zeroValue22
 i9 := by kernel_rfl }
end Go.Proofs
namespace Go.Proofs.YtghimogdeijgdaaGreatDoor
open Go.RowKit
open Go.Lib hiding intOf
attribute [local go_sem ↓] Go.wp_at_zero Go.wp_at_succ
theorem index_any (A : Option Addr) (n c B : Nat) (t : List ByteArray) (s : ByteArray) (w : World) (hn : t.length = n) (hnm : n ≤ 9223372036854775807) (hA : Row w B A (strs t)) :
  Calls Tryz.prog 107 #[.slice A n c, .string s] w fun e w' => e = .returned (.int .i64 (idxOfS t s)) ∧ w = w' := by
 subst hn;rcases hA with h | ⟨b, off, rfl, hb, hw, hcell⟩
 ·have ht : t = [] := by simpa [strs] using h
  subst ht;have h : Calls Tryz.prog 107 #[.slice A 0 c, .string s] w _ := Any.slices_Index_string_empty Tryz.laysIndex A c s w;exact h.mono fun e w' ⟨h1, h2⟩ => ⟨h1, h2.symm⟩
 ·have h : Calls Tryz.prog 107 #[.slice (some ⟨b, off, none⟩) t.length c, .string s] w _ := Any.slices_Index_string Tryz.laysIndex b off t.length c t s w (Nat.le_refl _) hnm (fun j hj => hcell j _ (by
   rw [strs, List.getElem?_map, List.getD_eq_getElem?_getD, List.getElem?_eq_getElem hj]
   rfl))
  rw [List.take_length] at h;exact h.mono fun e w' ⟨h1, h2⟩ => ⟨h1, h2.symm⟩
theorem find_low (A : Option Addr) (n c B : Nat) (t : List ByteArray) (s : ByteArray) (w : World) (hn : t.length = n) (hnm : n ≤ 9223372036854775807) (hA : Row w B A (strs t)) :
  Calls Tryz.prog 100 #[.slice A n c, .string s] w fun e w' => e = .returned (.tuple #[.int .i64 (max (idxOfS t s) 0), .bool (decide (0 ≤ idxOfS t s))]) ∧ w = w' := by
 have HI := Hd (index_any A n c B t s w hn hnm hA);generalize idxOfS t s = z at *;clear hA hn;go_enter Tryz.func100, Tryz.ntmps100;go_wp2_with fail
 refine (HI.out).mono ?_;rintro e w' ⟨rfl, rfl⟩;go_wp2
 go_ret2
 exact ⟨rfl, rfl⟩
theorem find_any (A : Option Addr) (n c B : Nat) (t : List ByteArray) (s : ByteArray) (w : World) (hn : t.length = n) (hnm : n ≤ 9223372036854775806) (hz : ∀ z ∈ t, z.size ≤ 9223372036854775807) (hA : Row w B A (strs t)) (hT : UTabs w) :
  Calls Tryz.prog 83 #[.slice A n c, .string s] w fun e w' => e = .returned (.tuple #[.int .i64 (max (posB t s) 0), .bool (decide (0 ≤ posB t s))]) ∧ Only [] w w' := by
 have HI := Hd (istab_any A n c B t w hn hnm hz hA hT);have HF := Hd (fun w' (h : Only [] w w') => find_low A n c B t s w' hn (by omega) (hA.only h (by simp)));unfold posB;generalize tabB t = v at *;clear hz hA hT hn
 cases v with
 | false =>
  rw [if_neg (by simp)];go_enter Tryz.func83, Tryz.ntmps83;go_wp2_with fail
  refine (HI.out).mono ?_;rintro e w1 ⟨rfl, hO⟩;have HO := Hd hO;clear hO;go_wp2
  go_ret2
  exact ⟨rfl, HO.out⟩
 | true =>
  rw [if_pos rfl];generalize idxOfS t s = z at *;go_enter Tryz.func83, Tryz.ntmps83;go_wp2_with fail
  refine (HI.out).mono ?_;rintro e w1 ⟨rfl, hO⟩;have HO := Hd hO;clear hO;go_wp2_with fail
  refine (HF.out _ HO.out).mono ?_;rintro e w2 ⟨rfl, rfl⟩;go_wp2
  go_ret2
  exact ⟨rfl, HO.out⟩
theorem make_new (A : Option Addr) (n c B : Nat) (zs : List ByteArray) (w : World) (hn : zs.length = n) (hN : n ≤ 1000) (hz : ∀ z ∈ zs, z.size ≤ 9223372036854775807) (hA : Row w B A (strs zs)) (hT : UTabs w) :
  Calls Tryz.prog 117 #[.slice A n c] w fun e w' => Only [] w w' ∧ ∃ A' m c', e = .returned (.slice A' m c') ∧ (sortB zs).length = m ∧ Row w' w'.heap.size A' (strs (sortB zs)) ∧ ∀ b, A' = some b → w.heap.size ≤ b.block := by
 have HS := Hd (sorted_new A n c B zs w hn hN hz hA hT);clear hn hN hz hA hT;go_enter Tryz.func117, Tryz.ntmps117;go_wp2_with fail
 refine (HS.out).mono ?_;rintro e w1 ⟨hO, A', m, c', rfl, hm, hr, hf⟩;have HF := Hd hf;have HO := Hd hO;have HM := Hd hm;have HR := Hd hr;clear hO hm hr hf;go_wp2
 go_ret
 exact ⟨HO.out, _, _, _, rfl, HM.out, HR.out, HF.out⟩
theorem clone_any (A : Option Addr) (n c B : Nat) (zs : List ByteArray) (w : World) (hn : zs.length = n) (hN : n ≤ 1000) (hA : Row w B A (strs zs)) (hc : A = none → n = 0 ∧ c = c) :
  Calls Tryz.prog 24 #[.slice A n c] w fun e w' => Only [] w w' ∧ ∃ V, e = .returned V ∧ w'.ownsRow w.heap.size 9 1 V n (strs zs) := by
 cases A with
 | none =>
  obtain ⟨h0, -⟩ := hc rfl;subst h0;have hz : zs = [] := List.eq_nil_of_length_eq_zero hn;subst hz;have h : Calls Tryz.prog 24 #[.slice none 0 c] w _ := Any.slices_Clone_string_nil Tryz.laysClone 0 c w;exact h.mono fun e w' ⟨h1, h2⟩ => by
   subst h2;exact ⟨Only.refl _ _, _, h1, rfl, .inl ⟨rfl, rfl⟩⟩
 | some a =>
  rcases hA with h | ⟨b, off, ha, hb, hw, hcell⟩
  ·have hz : zs = [] := by simpa [strs] using h
   subst hz;have h0 : n = 0 := hn.symm;subst h0;have h : Calls Tryz.prog 24 #[.slice (some a) 0 c] w _ := Any.slices_Clone_string_zero Tryz.laysClone a c w;exact h.mono fun e w' ⟨v', h1, h2, _, h4⟩ => ⟨Only.of_below h4 [], v', h1, h2⟩
  ·obtain rfl := Option.some.inj ha;have h : Calls Tryz.prog 24 #[.slice (some ⟨b, off, none⟩) n c] w _ := Any.slices_Clone_string Tryz.laysClone b off n c zs w (by omega) (by omega) (fun j hj => hcell j _ (by
    rw [strs, List.getElem?_map, List.getD_eq_getElem?_getD, List.getElem?_eq_getElem hj]
    rfl))
   rw [List.take_of_length_le (by omega)] at h;exact h.mono fun e w' ⟨v', h1, h2, _, h4⟩ => ⟨Only.of_below h4 [], v', h1, h2⟩
theorem put_new (A : Option Addr) (n c B : Nat) (zs : List ByteArray) (s : ByteArray) (w : World) (hn : zs.length = n) (hN : n ≤ 500) (hz : ∀ z ∈ zs, z.size ≤ 9223372036854775807) (hs : s.size ≤ 9223372036854775807) (hA : Row w B A (strs zs)) (hc : A = none → n = 0 ∧ c = c) (hT : UTabs w) :
  Calls Tryz.prog 111 #[.slice A n c, .string s] w fun e w' => Only [] w w' ∧ ∃ A' m c', e = .returned (.slice A' m c') ∧ (sortB (zs ++ [s])).length = m ∧ Row w' w'.heap.size A' (strs (sortB (zs ++ [s]))) ∧ ∀ b, A' = some b → w.heap.size ≤ b.block := by
 obtain ⟨i0, hi, hz0, hz1, hz2⟩ := info_parts tinfo_string;have HC := Hd (clone_any A n c B zs w hn (by omega) hA hc);have HMK := Hd (fun A' c' B' w' hA' (h : Only [] w w') => make_new A' (n + 1) c' B' (zs ++ [s]) w' (by rw [List.length_append, hn]; rfl) (by omega) (fun z hz' => by
  rcases List.mem_append.1 hz' with h | h
  ·exact hz z h
  ·rw [List.mem_singleton] at h; subst h; exact hs) hA' (hT.only h))
 have hlen : (strs zs).length = n := by rw [strs, List.length_map, hn]
 clear hn hz hs hA hT;go_enter Tryz.func111, Tryz.ntmps111;go_wp2_with fail
 refine (HC.out).mono ?_;rintro e w1 ⟨hO1, V, rfl, hown⟩;have hw1 := hO1.size;have HO1 := Hd hO1;have HOWN := Hd hown;clear hO1 hown;go_wp2_with (at_builtin; refine wpList_append_row _ rfl (.tmp 6) (.tmp 8) _ rfl w.heap.size 9 i0 _ 1 16 Tryz.underlying22 hi hz0 hz1 hz2 rfl (by omega) _ n (strs zs) rfl (own_only HOWN.out ((Only.refl [] _).alloc _) (by simp)) (w1.heap.size + 1) (some ⟨w1.heap.size, 0, none⟩) 1 1 [.string s] rfl rfl (row_lit w1 9 #[.string s]) (by simp [Value.oneCell']) (by unfold maxLen; omega) (by omega) (by simp; omega) ?_; intro v3 w3 hown3 hgrow hat)
 have HO3 := Hd ((HO1.out.alloc (.cells #[.string s] 9)).step (only_grown hgrow) (own_new HOWN.out));rw [show strs zs ++ [.string s] = strs (zs ++ [s]) by simp [strs]] at hown3;obtain ⟨A3, c3, rfl, -, -, -, hrow3⟩ := own_row hown3;have HM3 := Hd (HMK.out A3 c3 _ w3 hrow3 HO3.out);clear hown3 hgrow hat hrow3;go_wp2_with fail
 refine (HM3.out).mono ?_;rintro e w4 ⟨hO4, A', m, c', rfl, hm, hr, hf⟩;have HF := Hd (fun b hb => Nat.le_trans HO3.out.size (hf b hb));have HO4 := Hd (HO3.out.trans hO4);have HM := Hd hm;have HR := Hd hr;clear hO4 hm hr hf;go_wp2
 go_ret
 exact ⟨HO4.out, _, _, _, rfl, HM.out, HR.out, HF.out⟩
end Go.Proofs.YtghimogdeijgdaaGreatDoor
namespace Go.Proofs.YtghimogdeijgdaaGreatDoor
open Go.RowKit
theorem own_two {w : World} {base base' : Nat} {e e' : TypeId} {size size' : Nat} {v v' : Value} {n n' : Nat} {xs xs' : List Value} (h : w.ownsRow base e size v n xs) (h' : w.ownsRow base' e' size' v' n' xs') (hne : e ≠ e') :
  ∀ g, v.ownBlock = some g → g ∉ v'.ownBlock.toList := fun g hg hm => by
 obtain ⟨cur, hb⟩ := own_blk h hg;exact own_apart h' hb (Ne.symm hne) hm
theorem own_off {w : World} {base : Nat} {e : TypeId} {size : Nat} {v : Value} {n : Nat} {xs : List Value} (h : w.ownsRow base e size v n xs) {b : Nat} (hb : b < base) : b ∉ v.ownBlock.toList := fun hm => by
 cases hv : v.ownBlock with
 | none => rw [hv] at hm; cases hm
 | some g =>
  rw [hv] at hm;simp at hm;subst hm;have := (h.lt b hv).1;omega
theorem own_lower {w : World} {base base' : Nat} {e : TypeId} {size : Nat} {v : Value} {n : Nat} {xs : List Value} (h : w.ownsRow base e size v n xs) (hb : base' ≤ base) : w.ownsRow base' e size v n xs := by
 obtain ⟨hl, hv⟩ := h;refine ⟨hl, ?_⟩;rcases hv with hv | ⟨g, cap, cur, rfl, h1, rest⟩
 ·exact .inl hv
 ·exact .inr ⟨g, cap, cur, rfl, Nat.le_trans hb h1, rest⟩
open Go.Lib hiding intOf
attribute [local go_sem ↓] Go.wp_at_zero Go.wp_at_succ
theorem pfate_any (k : Int) (w : World) : Calls Tryz.prog 99 #[.int .i64 k] w fun e w' => e = .returned (.int .i64 (fateE k)) ∧ w = w' := by
 by_cases h1 : k = 4
 ·subst h1;go_enter Tryz.func99, Tryz.ntmps99;go_wp2
  go_ret
  exact ⟨rfl, rfl⟩
 ·have e1 : (k == 4) = false := by simpa using h1
  by_cases h2 : k = 5
  ·subst h2;go_enter Tryz.func99, Tryz.ntmps99;go_wp2
   go_ret
   exact ⟨rfl, rfl⟩
  ·have e2 : (k == 5) = false := by simpa using h2
   have HE : Hid (fateE k = 3) := Hd (by unfold fateE; rw [if_neg h1, if_neg h2]);clear h1 h2;go_enter Tryz.func99, Tryz.ntmps99;go_wp2
   go_ret
   exact ⟨by rw [HE.out]; rfl, rfl⟩
theorem with_any (A : Option Addr) (n c B : Nat) (t : List ByteArray) (s : ByteArray) (w : World) (hn : t.length = n) (hN : n ≤ 500) (hz : ∀ z ∈ t, z.size ≤ 9223372036854775807) (hs : s.size ≤ 9223372036854775807) (hA : Row w B A (strs t)) (hc : A = none → n = 0) (hT : UTabs w) :
  Calls Tryz.prog 106 #[.slice A n c, .string s] w fun e w' => Only [] w w' ∧ ∃ A' m c', e = .returned (.slice A' m c') ∧ (withB t s).length = m ∧ Row w' w'.heap.size A' (strs (withB t s)) ∧ ((A' = A ∧ withB t s = t) ∨ ∀ b, A' = some b → w.heap.size ≤ b.block) := by
 have HF := Hd (find_any A n c B t s w hn (by omega) hz hA hT);have HP := Hd (fun w' (O : Only [] w w') => put_new A n c B t s w' hn hN hz hs (hA.only O (by simp)) (fun h => ⟨hc h, rfl⟩) (hT.only O));have HN := Hd hn;have HA := Hd hA;clear hn hN hz hs hA hc hT
 by_cases h : 0 ≤ posB t s
 ·rw [decide_eq_true h] at HF;have HW : Hid (withB t s = t) := Hd (by unfold withB; rw [if_pos h]);clear h;go_enter Tryz.func106, Tryz.ntmps106;go_wp2_with fail
  refine (HF.out).mono ?_;rintro e w1 ⟨rfl, O1⟩;have HO1 := Hd O1;clear O1;go_wp2
  go_ret
  exact ⟨HO1.out, _, _, _, rfl, by rw [HW.out]; exact HN.out, by rw [HW.out]; exact row_up (HA.out.only HO1.out (by simp)), .inl ⟨rfl, HW.out⟩⟩
 ·rw [decide_eq_false h] at HF;have HW : Hid (withB t s = sortB (t ++ [s])) := Hd (by unfold withB; rw [if_neg h]);clear h;go_enter Tryz.func106, Tryz.ntmps106;go_wp2_with fail
  refine (HF.out).mono ?_;rintro e w1 ⟨rfl, O1⟩;have HO1 := Hd O1;clear O1;go_wp2_with fail
  refine (HP.out _ HO1.out).mono ?_;rintro e w2 ⟨O2, A', m, c', rfl, hm, hr, hf⟩;have HR := Hd (And.intro hm (And.intro hr hf));have HO2 := Hd (HO1.out.trans O2);clear O2 hm hr hf;go_wp2
  go_ret
  exact ⟨HO2.out, _, _, _, rfl, by rw [HW.out]; exact HR.out.1, by rw [HW.out]; exact HR.out.2.1, .inr fun b hb => Nat.le_trans HO1.out.size (HR.out.2.2 b hb)⟩
def kS (s : ByteArray) : Lit := .string s.data.toList
structure Opens (D : DataW Unit) (ps : List Pt) : Prop where
 there : ∀ s i, openI ps s = some i → Maps.has D (kS s) = true ∧ ∀ z, D.atKey (kS s) z = .lit (.int .i64 (i : Int))
 none_ : ∀ s, openI ps s = none → Maps.has D (kS s) = false
def mine (gm b : Nat) (V : Value) (xs : List PtA) : List Nat := gm :: b :: (V.ownBlock.toList ++ xs.flatMap fun x => (x.A.map Addr.block).toList ++ (x.Z.map Addr.block).toList)
structure MkAt (w : World) (base gm : Nat) (m : Mk) (V : Value) (xs : List PtA) (A0 A1 : Option Addr) (c0 c1 b : Nat) (D : DataW Unit) : Prop where
 blk : Blk w gm 122 #[V, .slice A0 m.ss.length c0, .slice A1 m.ks.length c1, .map (some b)]
 gmb : base ≤ gm
 parts : xs.map PtA.p = m.ps
 row : w.ownsRow base 125 5 V m.ps.length (ptC xs)
 keys : ∀ x ∈ xs, w.ownsRow base 9 1 (.slice x.A x.p.ks.length x.c) x.p.ks.length (strs x.p.ks)
 ops : ∀ x ∈ xs, w.ownsRow base 55 4 (.slice x.Z x.p.ops.length x.d) x.p.ops.length (opC x.p.ops)
 apK : xs.Pairwise fun x y => ∀ a, x.A = some a → ∀ a', y.A = some a' → a.block ≠ a'.block
 apO : xs.Pairwise fun x y => ∀ a, x.Z = some a → ∀ a', y.Z = some a' → a.block ≠ a'.block
 t0 : Row w w.heap.size A0 (strs m.ss)
 t1 : Row w w.heap.size A1 (strs m.ks)
 n0 : A0 = none → m.ss.length = 0
 n1 : A1 = none → m.ks.length = 0
 f0 : m.ss ≠ [] → ∀ a, A0 = some a → a.block ∉ mine gm b V xs
 f1 : m.ks ≠ [] → ∀ a, A1 = some a → a.block ∉ mine gm b V xs
 map : w.ownsMap Tryz.prog 9 (plainElem Tryz.prog 3) b m.ps.length D
 mapb : base ≤ b
 opens : Opens D m.ps
theorem row_avoid {S : List Nat} {w w' : World} {B : Nat} {A : Option Addr} {xs : List Value} (h : Row w B A xs) (ho : Only S w w') (ha : xs ≠ [] → ∀ a, A = some a → a.block ∉ S) : Row w' w'.heap.size A xs := by
 rcases h with rfl | ⟨b, off, rfl, h1, h2, hc⟩
 ·exact .inl rfl
 ·cases xs with
  | nil => exact .inl rfl
  | cons u xs =>
   have hn := ha (by simp) _ rfl;have := ho.size;exact .inr ⟨b, off, rfl, by omega, by omega, fun j v hv => (ho.cell (p := ⟨b, off + j, none⟩) (by show b < _; omega) hn).trans (hc j v hv)⟩
theorem row_lt {w : World} {B : Nat} {A : Option Addr} {xs : List Value} (h : Row w B A xs) (hn : xs ≠ []) {a : Addr} (ha : A = some a) : a.block < w.heap.size := by
 rcases h with rfl | ⟨b, off, e, h1, h2, hc⟩
 ·exact absurd rfl hn
 ·rw [ha] at e;obtain rfl := Option.some.inj e
  show b < _
  omega
theorem map_only {S : List Nat} {w w' : World} {k e : TypeId} {b n : Nat} {D : DataW Unit} (h : w.ownsMap Tryz.prog k (plainElem Tryz.prog e) b n D) (ho : Only S w w') (hb : b ∉ S) : w'.ownsMap Tryz.prog k (plainElem Tryz.prog e) b n D := by
 have hlt := h.lt;obtain ⟨es, clock, h1, h2⟩ := h;exact ⟨es, clock, (ho.keeps b hlt hb).trans h1, h2⟩
theorem map_not_blk {w : World} {k e : TypeId} {b n g : Nat} {t : TypeId} {cs : Array Value} {D : DataW Unit} (h : w.ownsMap Tryz.prog k (plainElem Tryz.prog e) b n D) (hb : Blk w g t cs) : g ≠ b := by
 rintro rfl;obtain ⟨es, clock, h1, -⟩ := h;rw [show w.heap[g]? = _ from hb] at h1
 cases h1
theorem map_not_own {w : World} {k e : TypeId} {b n : Nat} {D : DataW Unit} (h : w.ownsMap Tryz.prog k (plainElem Tryz.prog e) b n D) {base : Nat} {t : TypeId} {sz m : Nat} {v : Value} {xs : List Value} (hr : w.ownsRow base t sz v m xs) : b ∉ v.ownBlock.toList := by
 intro hm
 cases hv : v.ownBlock with
 | none => rw [hv] at hm; cases hm
 | some g =>
  rw [hv] at hm;obtain ⟨cur, hb⟩ := own_blk hr hv;have := map_not_blk h hb;simp at hm;omega
theorem MkAt.same {w w' : World} {base gm : Nat} {m : Mk} {V : Value} {xs : List PtA} {A0 A1 : Option Addr} {c0 c1 b : Nat} {D : DataW Unit} (h : MkAt w base gm m V xs A0 A1 c0 c1 b D) (ho : Only [] w w') : MkAt w' base gm m V xs A0 A1 c0 c1 b D where
 blk := ho.blk h.blk (by simp)
 gmb := h.gmb
 parts := h.parts
 row := own_only h.row ho (by simp)
 keys := fun x hx => own_only (h.keys x hx) ho (by simp)
 ops := fun x hx => own_only (h.ops x hx) ho (by simp)
 apK := h.apK
 apO := h.apO
 t0 := row_avoid h.t0 ho (by simp)
 t1 := row_avoid h.t1 ho (by simp)
 n0 := h.n0
 n1 := h.n1
 f0 := h.f0
 f1 := h.f1
 map := map_only h.map ho (by simp)
 mapb := h.mapb
 opens := h.opens
theorem mine_lt {w : World} {base gm : Nat} {m : Mk} {V : Value} {xs : List PtA} {A0 A1 : Option Addr} {c0 c1 b : Nat} {D : DataW Unit} (h : MkAt w base gm m V xs A0 A1 c0 c1 b D) : ∀ i ∈ mine gm b V xs, i < w.heap.size := by
 intro i hi;unfold mine at hi;simp only [List.mem_cons, List.mem_append, List.mem_flatMap] at hi;rcases hi with rfl | rfl | hi | ⟨x, hx, hi | hi⟩
 ·exact h.blk.lt
 ·exact h.map.lt
 ·exact own_lt h.row hi
 ·have := own_lt (h.keys x hx) (g := i) (by
   cases hA : x.A with
   | none => rw [hA] at hi; cases hi
   | some a => rw [hA] at hi; simpa [Value.ownBlock] using hi)
  exact this
 ·have := own_lt (h.ops x hx) (g := i) (by
   cases hA : x.Z with
   | none => rw [hA] at hi; cases hi
   | some a => rw [hA] at hi; simpa [Value.ownBlock] using hi)
  exact this
theorem mine_ge {w : World} {base gm : Nat} {m : Mk} {V : Value} {xs : List PtA} {A0 A1 : Option Addr} {c0 c1 b : Nat} {D : DataW Unit} (h : MkAt w base gm m V xs A0 A1 c0 c1 b D) : ∀ i ∈ mine gm b V xs, base ≤ i := by
 intro i hi;unfold mine at hi;simp only [List.mem_cons, List.mem_append, List.mem_flatMap] at hi;rcases hi with rfl | rfl | hi | ⟨x, hx, hi | hi⟩
 ·exact h.gmb
 ·exact h.mapb
 ·exact (h.row.lt i (by simpa using hi)).1
 ·exact ((h.keys x hx).lt i (by
   cases hA : x.A with
   | none => rw [hA] at hi; cases hi
   | some a => rw [hA] at hi; simp at hi; simp [Value.ownBlock, hi])).1
 ·exact ((h.ops x hx).lt i (by
   cases hA : x.Z with
   | none => rw [hA] at hi; cases hi
   | some a => rw [hA] at hi; simp at hi; simp [Value.ownBlock, hi])).1
theorem strs_ne {l : List ByteArray} : strs l ≠ [] ↔ l ≠ [] := by cases l <;> simp [strs]
theorem row_of_none {w : World} {B : Nat} {xs : List ByteArray} {A : Option Addr} (h : Row w B A (strs xs)) (hA : A = none) : xs.length = 0 := by
 subst hA;rcases h with h | ⟨b, off, e, _⟩
 ·cases xs with
  | nil => rfl
  | cons x l => simp [strs] at h
 ·cases e
theorem own_val {A : Option Addr} {n c g : Nat} : (Value.slice A n c).ownBlock = some g ↔ ∃ a, A = some a ∧ a.block = g := by
 cases A <;> simp [Value.ownBlock]
structure MkB (m : Mk) : Prop where
 zs : ∀ z ∈ m.ss, z.size ≤ 65537
 zk : ∀ z ∈ m.ks, z.size ≤ 65537
 np : m.ps.length ≤ 40
 ns : m.ss.length ≤ 20
 nk : m.ks.length ≤ 40
 uni : ∀ (i j : Nat) (p q : Pt), m.ps[i]? = some p → m.ps[j]? = some q → p.s = q.s → p.f = 0 → q.f = 0 → i = j
 no : ∀ p ∈ m.ps, p.ops.length ≤ 20 ∧ p.ks.length = p.ops.length ∧ p.s.size ≤ 65537 ∧ (∀ z ∈ p.ks, z.size ≤ 65537)
end Go.Proofs.YtghimogdeijgdaaGreatDoor
