/- Parts. -/
import Derived.Test.YthdofaoamljkfaaGreatDoorLaw24AllK32
set_option maxRecDepth 10000
set_option maxHeartbeats 16000000
set_option linter.unusedVariables false
set_option linter.unusedSimpArgs false
namespace Go.Proofs.YthdofaoamljkfaaGreatDoor
open Go.RowKit
open Go.Lib hiding intOf
attribute [local go_sem ↓] Go.wp_at_zero Go.wp_at_succ
theorem sortf_own (w0 w : World) (g cap n : Nat) (cur : Array Value) (fair : List ByteArray) (hl : fair.length = n) (hnm : ∀ b ∈ fair, isName b = true) (hN : n ≤ 1000) (hb : Blk w g 9 cur) (ht : cur.toList.take (n * 1) = strs fair) (hg : w0.heap.size ≤ g) (h0 : Below w0.heap.size w0 w) (hT : UTabs w0) :
  Calls Tryz.prog 135 #[.slice (some ⟨g, 0, none⟩) n cap, .func (.func 136) #[] #[]] w fun e w' => e = .returned (.tuple #[]) ∧ Below w0.heap.size w0 w' ∧ g < w'.heap.size ∧
   ∃ bs : List ByteArray, bs.length = n ∧ bs.Perm fair ∧ bs.Pairwise (fun a b => lessB b a = false) ∧ ∀ j, j < n → w'.cell? ⟨g, 0 + j, none⟩ = some (.string (bs.getD j ⟨#[]⟩)) ∧ w'.frozen? ⟨g, 0 + j, none⟩ = false := by
 letI : Inhabited NameT := ⟨⟨⟨#[97]⟩, name_a⟩⟩
 obtain ⟨dl, hdl⟩ : ∃ dl : List NameT, dl.map (fun x : NameT => x.1) = fair := by
  refine ⟨fair.attach.map fun x => (⟨x.1, hnm x.1 x.2⟩ : NameT), ?_⟩;rw [List.map_map];exact List.attach_map_subtype_val fair
 have hdn : dl.length = n := by rw [← hl, ← hdl, List.length_map]
 have hget : ∀ j, j < n → ∀ e : List NameT, e.length = n → encN (e.toArray[j]!) = .string ((e.map fun x : NameT => x.1).getD j ⟨#[]⟩) := by
  intro j hj e he;rw [getElem!_pos e.toArray j (by simpa [he] using hj), List.getD_eq_getElem?_getD, List.getElem?_map, List.getElem?_eq_getElem (by omega)]
  rfl
 have hH : Go.Sort.Holds encN w g 0 dl.toArray := by
  intro j hj;have hj2 : j < n := by simpa [hdn] using hj
  refine ⟨?_, hb.free _⟩;rw [hget j hj2 dl hdn, hdl, hb.at_, Nat.zero_add];have h1 : (cur.toList.take (n * 1))[j]? = some (.string (fair.getD j ⟨#[]⟩)) := by
   rw [ht, strs, List.getElem?_map, List.getD_eq_getElem?_getD, List.getElem?_eq_getElem (by omega)]
   rfl
  rw [List.getElem?_take, if_pos (by omega)] at h1;rw [← Array.getElem?_toList];exact h1
 have hlt := hb.lt;have hws : w0.heap.size ≤ w.heap.size := by omega
 have hcmp : CmpLays1 Tryz.prog 136 #[] encN cmpN g 0 dl.toArray.size w := by
  intro m os dk hdk x y;have h := compare_ex x.1 y.1 (sortWorld encN w g 0 m dk os) (by have := name_size x.2; omega) (by have := name_size y.2; omega) (Utf8Tabs_below hT (below_sortWorld encN w g 0 m dk os h0 hg hws));have e : (#[encN x, encN y] ++ #[] : Array Value) = #[.string x.1, .string y.1] := by simp [encN]
  rw [e];exact h.mono fun e w' ⟨he, hx⟩ => ⟨he, hx.grown⟩
 have h := Any.slices_SortFunc Tryz.laysSort encN (fun _ => rfl) cmpN ltN_swo 136 #[] g 0 cap dl.toArray w (enters_of Tryz.func136 (by kernel_rfl) rfl) hcmp hH hlt (by simp [hdn]; omega);have hsz : dl.toArray.size = n := by simp [hdn]
 rw [hsz] at h;refine Calls.mono h ?_;rintro e w' ⟨rfl, d', q, os, ⟨hp1, -, hp2⟩, hso, rfl⟩;obtain ⟨ms⟩ := d';have hmn : ms.length = n := by simpa [hdn] using hp1
 have hx1 : (dl.toArray.extract 0 n).toList = dl := by simp [← hdn]
 have hx2 : ((Array.mk ms).extract 0 n).toList = ms := by simp [← hmn]
 rw [hx1, hx2] at hp2;refine ⟨rfl, ?_, ?_, ms.map (fun x : NameT => x.1), by rw [List.length_map, hmn], ?_, ?_, ?_⟩
 ·exact below_sortWorld encN w g 0 q _ os h0 hg hws
 ·show g < (w.heap.modify g _ ++ os).size
  rw [Array.size_append, Array.size_modify];omega
 ·rw [← hdl];exact hp2.map _
 ·rw [List.pairwise_map, List.pairwise_iff_getElem];intro i j hi hj hij;have h2 := hso i j (Nat.zero_le _) hij (by omega);rw [ltN_eq, getElem!_pos (Array.mk ms) i (by simpa using hi), getElem!_pos (Array.mk ms) j (by simpa using hj)] at h2;exact h2
 ·intro j hj;have hdk : (ms.toArray).size = dl.toArray.size := by simp [hmn, hdn]
  have hh : Go.Sort.Holds encN (sortWorld encN w g 0 q ms.toArray os) g 0 ms.toArray :=
   Go.Sort.holds_grow encN (Go.Sort.putRow encN (Go.Sort.ahead w q) g 0 ms.toArray) os g 0 ms.toArray (by show g < (w.heap.modify g _).size; rw [Array.size_modify]; exact hlt) (Go.Sort.holds_putRow encN (Go.Sort.ahead w q) g 0 dl.toArray ms.toArray (Go.Sort.holds_ahead encN w q g 0 dl.toArray hH) hdk)
  have h2 := hh j (by simpa [hmn] using hj);rw [hget j hj ms hmn] at h2;exact h2
theorem ins_none (fv : Value) (w : World) :
  Calls Tryz.prog 140 #[.slice none 0 0, .int .i64 0, .int .i64 0, fv] w fun e w' => e = .returned (.tuple #[]) ∧ w = w' := by
 go_enter Tryz.func140, Tryz.ntmps140;go_wp2
 refine wp_loop_rounds 1 ?_;rw [rounds_succ];go_wp2
 go_end0
 exact ⟨rfl, rfl⟩
theorem pdq_none (lim : Int) (fv : Value) (w : World) :
  Calls Tryz.prog 138 #[.slice none 0 0, .int .i64 0, .int .i64 0, .int .i64 lim, fv] w fun e w' => e = .returned (.tuple #[]) ∧ w = w' := by
 have HI := Hd (fun w' => ins_none fv w');go_enter Tryz.func138, Tryz.ntmps138;go_wp2
 refine wp_loop_rounds 1 ?_;rw [rounds_succ];go_wp2_with fail
 refine (HI.out _).mono ?_;rintro e w' ⟨rfl, rfl⟩;go_wp2
 (try simp only [Exit.inBlock, Exit.then]); refine bodyPost_ret (results_none rfl _ _ _) rfl ?_
 exact ⟨rfl, rfl⟩
theorem len_none (w : World) : Calls Tryz.prog 139 #[.int .u64 0] w fun e w' => e = .returned (.int .i64 0) ∧ w' = w :=
 Any.bits_Len (SlLaysF0.n15.bits (P := Tryz.prog) (ρ := Tryz.laysSort_ren) { Tryz.laysSort with }) 0 w (by omega) (by omega)
theorem sortf_none (fv : Value) (w : World) :
  Calls Tryz.prog 135 #[.slice none 0 0, fv] w fun e w' => e = .returned (.tuple #[]) ∧ w = w' := by
 have HP := Hd (fun w' => pdq_none 0 fv w');have HL := Hd (fun w' => len_none w');have hw : IntKind.u64.wrap 0 = 0 := by rfl
 go_enter Tryz.func135, Tryz.ntmps135;go_wp2_with fail
 refine (HL.out _).mono ?_;rintro e w' ⟨rfl, rfl⟩;go_wp2_with fail
 refine (HP.out _).mono ?_;rintro e w' ⟨rfl, rfl⟩;go_wp2
 go_end0
 exact ⟨rfl, rfl⟩
theorem below_cells {B b : Nat} {a : World} (hb : B ≤ b) : ∀ (vs : List Value) (o : Nat) (w : World), Below B a w → Below B a (w.setCells b o vs)
 | [], _, _, h => h
 | v :: vs, o, w, h => by
  refine below_cells hb vs (o + 1) _ ⟨h.os, h.tape, h.output, by simpa [World.setCell] using h.size, fun k hk => ?_⟩;rw [Below.heap_setCell w _ v k (by show k ≠ b; omega)];exact h.block k hk
theorem size_cells (b : Nat) : ∀ (vs : List Value) (o : Nat) (w : World), (w.setCells b o vs).heap.size = w.heap.size
 | [], _, _ => rfl
 | v :: vs, o, w => by
  show ((w.setCell ⟨b, o, none⟩ v).setCells b (o + 1) vs).heap.size = _
  rw [size_cells b vs (o + 1) _];simp [World.setCell]
theorem strsOf_list (bs : List ByteArray) (n : Nat) (h : bs.length = n) : strsOf (fun j => bs.getD j ⟨#[]⟩) n = bs.map by_ := by
 unfold strsOf
 apply List.ext_getElem
 ·simp [h]
 ·intro i h1 h2;simp only [List.getElem_map, List.getElem_range];rw [List.getD_eq_getElem?_getD, List.getElem?_eq_getElem (by simpa using h2)]
  rfl
theorem compactf_own (w0 w : World) (g cap n : Nat) (l bs : List ByteArray) (hl : bs.length = n) (hN : n ≤ 1000) (hc : n ≤ cap) (hn : ∀ b ∈ bs, isName b = true) (hs : bs.Pairwise fun a b => lessB b a = false) (hm : ∀ y, y ∈ bs ↔ y ∈ l ∧ isName y = true)
  (hcell : ∀ j, j < n → w.cell? ⟨g, 0 + j, none⟩ = some (.string (bs.getD j ⟨#[]⟩)) ∧ w.frozen? ⟨g, 0 + j, none⟩ = false) (hg : w0.heap.size ≤ g) (hlt : g < w.heap.size) (h0 : Below w0.heap.size w0 w) :
  Calls Tryz.prog 137 #[.slice (some ⟨g, 0, none⟩) n cap] w fun e w' => e = .returned (.slice (some ⟨g, 0, none⟩) (sortB l).length cap) ∧ Below w0.heap.size w0 w' ∧ Row w' w'.heap.size (some ⟨g, 0, none⟩) (strs (sortB l)) := by
 have h := Any.slices_Compact_string_cells Tryz.laysCompact g 0 n cap (fun j => bs.getD j ⟨#[]⟩) w (by omega) hc (fun j hj => (hcell j hj).1) (fun j hj => (hcell j hj).2);rw [strsOf_list bs n hl] at h;have hcs := compact_sort l bs hn hs hm;have hle := compact_length_le (bs.map by_);rw [List.length_map, hl] at hle;generalize compact (bs.map by_) = ys at *;have hlen : (sortB l).length = ys.length := by rw [← hcs, List.length_map]
 rw [hlen];refine Calls.mono h ?_;rintro e w' ⟨rfl, q, rfl⟩;refine ⟨rfl, below_cells hg _ _ _ ⟨h0.os, h0.tape, h0.output, h0.size, h0.block⟩, ?_⟩;have hcells := cells_after_strs (W := w) (b := g) (off := 0) (q := q) (m := n) (ys := ys ++ List.replicate (n - ys.length) []) (Nat.le_refl n) (by simp; omega) (fun j hj => (hcell j hj).1);refine .inr ⟨g, 0, rfl, ?_, ?_, fun j u hu => ?_⟩
 ·rw [size_cells]; exact hlt
 ·exact Nat.le_refl _
 ·rw [← hcs, strs, List.map_map, List.getElem?_map] at hu
  cases hy : ys[j]? with
  | none => rw [hy] at hu; cases hu
  | some y =>
   rw [hy] at hu;obtain rfl := Option.some.inj hu;have hj : j < ys.length := (List.getElem?_eq_some_iff.1 hy).1;rw [hcells j (by omega)];unfold strAfter;rw [if_pos (by rw [List.length_append]; omega), List.getD_eq_getElem?_getD, List.getElem?_append_left hj, hy]
   rfl
theorem sorted_new (A : Option Addr) (n c B : Nat) (zs : List ByteArray) (w : World) (hn : zs.length = n) (hN : n ≤ 1000) (hz : ∀ z ∈ zs, z.size ≤ 9223372036854775807) (hA : Row w B A (strs zs)) (hT : UTabs w) :
  Calls Tryz.prog 134 #[.slice A n c] w fun e w' => Only [] w w' ∧ ∃ A' m c', e = .returned (.slice A' m c') ∧ (sortB zs).length = m ∧ Row w' w'.heap.size A' (strs (sortB zs)) ∧ ∀ b, A' = some b → w.heap.size ≤ b.block := by
 obtain ⟨i0, hi, hz0, hz1, hz2⟩ := info_parts tinfo_string;have HIS := Hd (fun k z w' (h : Only [] w w') (hz' : zs[k]? = some z) => is_any z w' (hz z (List.mem_of_getElem? hz')) (hT.only h));have HT := Hd hT;have HN := Hd hn;have HROW := Hd hA;clear hz hT hn hA;go_enter Tryz.func134, Tryz.ntmps134;go_wp2_with fail
 go_loopw [3, 8] (fun V iv wr => ∃ (k m : Nat), iv = .int .i64 k ∧ k ≤ n ∧ m ≤ k ∧ Hid (((zs.take k).filter isName).length = m) ∧ Hid (wr.ownsRow w.heap.size 9 1 V m (strs ((zs.take k).filter isName))) ∧ Hid (Only [] w wr)) (fun _ iv _ => n - (intOf iv).toNat)
 case atStart => exact ⟨0, 0, rfl, by omega, by omega, Hd rfl, Hd ⟨rfl, .inl ⟨rfl, rfl⟩⟩, Hd (Only.refl [] w)⟩
 case round =>
  obtain ⟨k, m, rfl, hk, hm, HM, HOWN, HO⟩ := hrel
  by_cases hlt : k < n
  ·have h01 : (k : Int) < (n : Int) := by omega
   have hk0 : (0 : Int) ≤ (k : Int) := Int.natCast_nonneg _;have hwk : IntKind.i64.wrap ((k : Int) + 1) = (k : Int) + 1 := IntWalk.i64_in _ (by omega);obtain ⟨b, off, rfl, hbB, hbw, hcell⟩ := HROW.out.open_ (k := k) (by rw [strs, List.length_map, HN.out]; exact hlt);obtain ⟨l, hl⟩ : ∃ l, zs[k]? = some l := ⟨_, List.getElem?_eq_getElem (by rw [HN.out]; exact hlt)⟩;have hck : wr.cell? ⟨b, off + k, none⟩ = some (.string l) := (HO.out.cell (p := ⟨b, off + k, none⟩) hbw (by simp)).trans (hcell k _ (by rw [strs, List.getElem?_map, hl]; rfl));have HI := Hd (HIS.out k l wr HO.out hl);have hwsz := HO.out.size;obtain ⟨v, hv⟩ : ∃ v, v = isName l := ⟨_, rfl⟩;rw [← hv] at HI;have HV := Hd hv;have HLK := Hd hl;clear hcell hl hv
   cases v with
   | true =>
    have HTK : Hid ((zs.take (k + 1)).filter isName = (zs.take k).filter isName ++ [l]) := Hd (by
     rw [List.take_add_one, HLK.out, List.filter_append]
     congr 1
     simp [HV.out.symm])
    have hlen : (strs ((zs.take k).filter isName)).length = m := by rw [strs, List.length_map, HM.out]
    go_wp2_with fail
    refine (HI.out).mono ?_;rintro e w2 ⟨rfl, hO2⟩;have HOWN2 := Hd (own_only HOWN.out hO2 (by simp));have HO2 := Hd (HO.out.trans hO2);have hw2 := hO2.size;clear hO2;go_wp2_with (at_builtin; refine wpList_append_row _ rfl (.tmp 14) (.tmp 16) _ rfl w.heap.size 9 i0 _ 1 16 Tryz.underlying22 hi hz0 hz1 hz2 rfl (by omega) _ m (strs ((zs.take k).filter isName)) rfl (own_only HOWN2.out ((Only.refl [] _).alloc _) (by simp)) (w2.heap.size + 1) (some ⟨w2.heap.size, 0, none⟩) 1 1 [.string l] (by rfl) (by rfl) (row_lit w2 9 #[.string l]) (by simp [Value.oneCell']) (by unfold maxLen; omega) (by omega) (by simp; omega) ?_; intro v3 w3 hown3 hgrow hat)
    have REL : w3.ownsRow w.heap.size 9 1 v3 (m + 1) (strs ((zs.take (k + 1)).filter isName)) ∧ Only [] w w3 ∧ ((zs.take (k + 1)).filter isName).length = m + 1 := by
     refine ⟨?_, (HO2.out.alloc _).step (only_grown hgrow) (own_new HOWN2.out), ?_⟩
     ·rw [HTK.out];have e : strs ((zs.take k).filter isName ++ [l]) = strs ((zs.take k).filter isName) ++ [.string l] := by simp [strs]
      rw [e];exact hown3
     ·rw [HTK.out, List.length_append, HM.out]
      rfl
    have HREL := Hd REL;clear REL hown3 hgrow hat hlen;go_wp2
    go_roundw
    case rel => exact ⟨k + 1, m + 1, by go_num, by omega, by omega, Hd HREL.out.2.2, Hd HREL.out.1, Hd HREL.out.2.1⟩
    case measure => simp [intOf]; omega
   | false =>
    go_wp2_with fail
    refine (HI.out).mono ?_;rintro e w2 ⟨rfl, hO2⟩;have HOWN2 := Hd (own_only HOWN.out hO2 (by simp));have HO2 := Hd (HO.out.trans hO2);have HTK2 : Hid ((zs.take (k + 1)).filter isName = (zs.take k).filter isName) := Hd (by
     rw [List.take_add_one, HLK.out, List.filter_append];simp [HV.out.symm])
    clear hO2;go_wp2
    go_roundw
    case rel => exact ⟨k + 1, m, by go_num, by omega, by omega, Hd (by rw [HTK2.out]; exact HM.out), Hd (by rw [HTK2.out]; exact HOWN2.out), HO2⟩
    case measure => simp [intOf]; omega
  ·have hkn : k = n := by omega
   subst hkn;have hd : decide ((k : Int) < (k : Int)) = false := by simp
   have HALL : Hid ((zs.take k).filter isName = zs.filter isName) := Hd (by rw [List.take_of_length_le (by rw [HN.out]; exact Nat.le_refl _)]);have HFM : Hid (∀ y, y ∈ (zs.take k).filter isName ↔ y ∈ zs ∧ isName y = true) := Hd (fun y => by rw [HALL.out, List.mem_filter]);generalize (zs.take k).filter isName = fair at *;obtain ⟨hl0, hv⟩ := HOWN.out;rcases hv with ⟨hv, hm0⟩ | ⟨g, cap, cur, hv, hbase, hg, hnc, hcm, hsz, ht⟩
   ·subst hv;subst hm0;have hfe : fair = [] := List.eq_nil_of_length_eq_zero HM.out;subst hfe;have HS := Hd (fun w' => sortf_none (.func (.func 136) #[] #[]) w');have HC := Hd (fun w' => (Any.slices_Compact_string_empty Tryz.laysCompact none 0 w'));have HE : Hid (sortB zs = []) := Hd (by
     have := (sortB_names zs).2
     cases hs : sortB zs with
     | nil => rfl
     | cons y t =>
      rw [hs] at this;have h1 := (HFM.out y).2 ((this y).1 (List.mem_cons_self ..))
      cases h1)
    clear hl0 HOWN;go_wp2_with fail
    refine (HS.out _).mono ?_;rintro e w5 ⟨rfl, rfl⟩;go_wp2_with fail
    refine (HC.out _).mono ?_;rintro e w6 ⟨rfl, rfl⟩;go_wp2
    go_ret
    exact ⟨HO.out, none, 0, 0, rfl, by rw [HE.out]; rfl, by rw [HE.out]; exact .inl rfl, fun b h => by cases h⟩
   ·subst hv;have h0 : Below w.heap.size w wr := HO.out.below (Nat.le_refl _) (by simp);have HS := Hd (sortf_own w wr g cap m cur fair HM.out (fun b hb => ((HFM.out b).1 hb).2) (by omega) hg ht hbase h0 HT.out);have HC := Hd (fun w' bs hl hc hn hs hm' hcell hlt h0' => compactf_own w w' g cap m zs bs hl (by omega) hc hn hs hm' hcell hbase hlt h0');have HCC := Hd hnc;have HBASE := Hd hbase;clear hl0 HOWN hg ht hbase hsz h0 hnc hcm;go_wp2_with fail
    refine (HS.out).mono ?_;rintro e w5 ⟨rfl, hb5, hg5, bs, hbl, hbp, hbs, hbc⟩;have HC5 := Hd (HC.out w5 bs hbl HCC.out (fun b hb => ((HFM.out b).1 (hbp.mem_iff.1 hb)).2) hbs (fun y => by rw [hbp.mem_iff, HFM.out]) hbc hg5 hb5);clear hb5 hg5 hbl hbp hbs hbc;go_wp2_with fail
    refine (HC5.out).mono ?_;rintro e w6 ⟨rfl, hb6, hrow⟩;have HB6 := Hd hb6;have HR6 := Hd hrow;clear hb6 hrow;go_wp2
    go_ret
    exact ⟨Only.of_below HB6.out [], _, _, _, rfl, rfl, HR6.out, fun b h => by cases h; exact HBASE.out⟩
end Go.Proofs.YthdofaoamljkfaaGreatDoor
