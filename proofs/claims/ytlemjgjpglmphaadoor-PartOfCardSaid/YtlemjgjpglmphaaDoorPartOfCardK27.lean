/- Parts. -/
import Derived.Test.YtlemjgjpglmphaaDoorPartOfCardK3
import Derived.Test.YtlemjgjpglmphaaDoorPartOfCardK24
import Derived.Test.YtlemjgjpglmphaaDoorPartOfCardK25
import Derived.Test.YtlemjgjpglmphaaDoorPartOfCardK26
import Derived.WalkSmall
set_option maxRecDepth 10000
set_option maxHeartbeats 16000000
set_option linter.unusedVariables false
set_option linter.unusedSimpArgs false
namespace Go.Proofs.YtlemjgjpglmphaaDoor
open Go.RowKit
structure PF where
 v : Nat
 l : List Nat
 A : Option Addr
 c : Nat
 p : Nat
def PF.frm (f : PF) : Frm := (f.v, f.l, f.p)
def frmS (S : List PF) : List Frm := S.map PF.frm
def intsN (l : List Nat) : List Value := l.map fun x : Nat => Value.int .i64 (x : Int)
theorem intsN_len (l : List Nat) : (intsN l).length = l.length := by simp [intsN]
theorem intsN_app (l m : List Nat) : intsN (l ++ m) = intsN l ++ intsN m := by simp [intsN]
def stkC : List PF → List Value
 | [] => []
 | f :: S => stkC S ++ [.int .i64 (f.v : Int), .slice f.A f.l.length f.c]
theorem stkC_len (S : List PF) : (stkC S).length = S.length * 2 := by
 induction S with
 | nil => rfl
 | cons f S ih => simp only [stkC, List.length_append, List.length_cons, List.length_nil, ih]; omega
theorem stkC_node (f : PF) (S : List PF) : (stkC (f :: S))[S.length * 2]? = some (.int .i64 (f.v : Int)) := by
 rw [stkC, List.getElem?_append_right (by rw [stkC_len]; exact Nat.le_refl _), stkC_len, Nat.sub_self]; rfl
theorem stkC_rest (f : PF) (S : List PF) : (stkC (f :: S))[S.length * 2 + 1]? = some (.slice f.A f.l.length f.c) := by
 rw [stkC, List.getElem?_append_right (by rw [stkC_len]; omega), stkC_len, show S.length * 2 + 1 - S.length * 2 = 1 by omega]; rfl
theorem stkC_set (f : PF) (S : List PF) (l : List Nat) (A : Option Addr) (c : Nat) : (stkC (f :: S)).set (S.length * 2 + 1) (.slice A l.length c) = stkC (⟨f.v, l, A, c, f.p⟩ :: S) := by
 rw [stkC, List.set_append_right _ _ (by rw [stkC_len]; omega), stkC_len, show S.length * 2 + 1 - S.length * 2 = 1 by omega]; rfl
def RestOk (w : World) (dv : Value) (f : PF) : Prop := f.l ≠ [] → ∃ b off, f.A = some ⟨b, off, none⟩ ∧ OwnQ w 0 3 b off f.c (intsN f.l) ∧ b ∉ dv.ownBlock.toList
theorem RestOk.only {w w' : World} {dv : Value} {f : PF} {T : List Nat} (h : RestOk w dv f) (O : Only T w w') (hT : ∀ b off, f.A = some ⟨b, off, none⟩ → OwnQ w 0 3 b off f.c (intsN f.l) → b ∉ T) : RestOk w' dv f := fun hl => by
 obtain ⟨b, off, h1, h2, h3⟩ := h hl;exact ⟨b, off, h1, h2.only O (hT b off h1 h2), h3⟩
theorem RestOk.same {w w' : World} {dv : Value} {f : PF} (h : RestOk w dv f) (O : Only [] w w') : RestOk w' dv f := h.only O (fun _ _ _ _ => by simp)
theorem RestOk.blk {w w' : World} {dv : Value} {f : PF} {g : Nat} {t : TypeId} {cs : Array Value} (h : RestOk w dv f) (hb : Blk w g t cs) (ht : 3 ≠ t) (O : Only [g] w w') : RestOk w' dv f :=
 h.only O fun b off _ hq hm => by
  simp at hm;exact hq.apart hb ht hm.symm
theorem RestOk.grow {w w' : World} {dv dv' : Value} {f : PF} (h : RestOk w dv f) (O : Only dv.ownBlock.toList w w') (hat : dv'.ownBlock = dv.ownBlock ∨ dv'.ownBlock = some w.heap.size) : RestOk w' dv' f := fun hl => by
 obtain ⟨b, off, h1, h2, h3⟩ := h hl;refine ⟨b, off, h1, h2.only O h3, fun hm => ?_⟩;rcases hat with e | e
 ·rw [e] at hm; exact h3 hm
 ·rw [e] at hm;simp at hm;have := h2.lt;omega
theorem RestOk.new {w : World} {base : Nat} {dv : Value} {l : List Nat} {A : Option Addr} {c x p : Nat} (h : w.ownsRow base 3 1 (.slice A l.length c) l.length (intsN l)) (hd : ∀ g ∈ dv.ownBlock.toList, g < base) : RestOk w dv ⟨x, l, A, c, p⟩ := fun hl => by
 have h0 : 0 < l.length := by cases l with
  | nil => exact absurd rfl hl
  | cons => simp
 obtain ⟨b, c', e, hq⟩ := own_queue h h0;have e1 : A = some ⟨b, 0, none⟩ := by injection e
 have e2 : c = c' := by injection e
 subst e1 e2;refine ⟨b, 0, rfl, ⟨hq.le, hq.max, Nat.zero_le _, hq.blk⟩, fun hm => ?_⟩;have h1 := hd b hm;have h2 := hq.lo;omega
theorem RestOk.tail {w : World} {dv : Value} {x y b off c p : Nat} {l : List Nat} (h : OwnQ w 0 3 b off c (intsN (y :: l))) (hd : b ∉ dv.ownBlock.toList) : RestOk w dv ⟨x, l, some ⟨b, if c = 1 then off else off + 1, none⟩, c - 1, p⟩ := fun _ =>
 ⟨b, _, rfl, OwnQ.tail (x := .int .i64 (y : Int)) (xs := intsN l) h, hd⟩
def restLen : Value → Nat
 | .slice _ n _ => n + 1
 | _ => 0
def lookSum (F : Nat → Option Value) : Nat → Nat
 | 0 => 0
 | t + 1 => lookSum F t + match F (t * 2 + 1) with
  | some v => restLen v
  | none => 0
def lookS (w : World) : Value → Nat
 | .slice (some a) t _ => lookSum (fun j => w.cell? ⟨a.block, j, none⟩) t
 | _ => 0
def sumS (S : List PF) : Nat := (S.map fun f => f.l.length + 1).sum
theorem lookSum_of {F : Nat → Option Value} : ∀ (S : List PF), (∀ (j : Nat) (u : Value), (stkC S)[j]? = some u → F j = some u) → lookSum F S.length = sumS S
 | [], _ => rfl
 | f :: S, h => by
  have ih := lookSum_of S fun j u hj => h j u (by
   have hl := (List.getElem?_eq_some_iff.1 hj).1;rw [stkC, List.getElem?_append_left hl];exact hj)
  show lookSum F (S.length + 1) = _
  rw [lookSum, ih, h _ _ (stkC_rest f S)];simp [sumS, restLen];omega
theorem lookS_of {w : World} {base e g c : Nat} {S : List PF} (h : w.ownsRow base e 2 (.slice (some ⟨g, 0, none⟩) S.length c) S.length (stkC S)) : lookS w (.slice (some ⟨g, 0, none⟩) S.length c) = sumS S :=
 lookSum_of S fun j u hj => (own_cell h rfl hj).1
def leftM (w : World) (b n : Nat) : Nat := ((List.range n).filter fun i : Nat => match w.cell? ⟨b, i, none⟩ with
 | some (.bool false) => true
 | _ => false).length
theorem leftM_mark {w : World} {b n : Nat} {K : List Int} (h : Blk w b 4 (markC n K)) : leftM w b n = leftK n K := by
 unfold leftM leftK
 congr 1
 refine List.filter_congr fun i hi => ?_;rw [(h.at_ i).trans (markC_at n K i (List.mem_range.1 hi))]
 cases decide ((i : Int) ∈ K) <;> rfl
theorem nodup_left {n : Nat} : ∀ (k : Nat) {S : List Nat}, S.length = k → S.Nodup → (∀ a ∈ S, a < n) → leftK n (S.map fun x : Nat => (x : Int)) + k ≤ n
 | 0, S, hk, _, _ => by
  obtain rfl := List.length_eq_zero_iff.1 hk;exact leftK_le n []
 | k + 1, S, hk, hd, hl => by
  rcases List.eq_nil_or_concat S with rfl | ⟨T, a, rfl⟩
  ·simp at hk
  have hT : T.length = k := by simp at hk; exact hk
  rw [List.concat_eq_append] at hd hl ⊢;rw [List.nodup_append] at hd;have ih := nodup_left k hT hd.1 (fun x hx => hl x (List.mem_append_left _ hx));have := leftK_snoc (hl a (by simp)) (K := T.map fun x : Nat => (x : Int)) (fun hm => by
   obtain ⟨c, hc, e⟩ := List.mem_map.1 hm;exact hd.2.2 c hc a (by simp) (by omega))
  rw [List.map_append, List.map_cons, List.map_nil];omega
theorem nodup_lt_len {n : Nat} {S : List Nat} (hd : S.Nodup) (hl : ∀ a ∈ S, a < n) : S.length ≤ n := by
 have := nodup_left S.length rfl hd hl;omega
theorem nodes_frm (S : List PF) : nodesS (frmS S) = S.map PF.v := by simp [nodesS, frmS, PF.frm, Function.comp_def]
structure FromK (E : Nat → Nat → Prop) (n r : Nat) (D L : List Nat) (S : List PF) (K : List Int) : Prop where
 dfs : Dfs E (D ++ L) (frmS S)
 ln : ∀ x ∈ L, x < n ∧ To E r x
 sn : ∀ f ∈ S, f.v < n ∧ To E r f.v ∧ f.l.length ≤ n ∧ ∀ y ∈ f.l, y < n
 root : r ∈ L ∨ ∃ f ∈ S, f.v = r
 mks : ∀ x : Nat, (x : Int) ∈ K ↔ x ∈ D ++ L ∨ x ∈ S.map PF.v
section
variable {E : Nat → Nat → Prop} {n r : Nat} {D L : List Nat} {S : List PF} {K : List Int}
theorem FromK.start {l : List Nat} {A : Option Addr} {c : Nat} (hD : Dfs E D []) (hr : r < n) (hrD : r ∉ D) (hl : ∀ m, E r m ↔ m ∈ l) (hn : l.length ≤ n) (hln : ∀ y ∈ l, y < n) (hK : ∀ x : Nat, (x : Int) ∈ K ↔ x ∈ D) :
  FromK E n r D [] [⟨r, l, A, c, D.length⟩] (K ++ [(r : Int)]) where
 dfs := by rw [List.append_nil]; exact hD.start hrD hl
 ln := fun x hx => by cases hx
 sn := fun f hf => by
  rw [List.mem_singleton.1 hf];exact ⟨hr, .refl _, hn, hln⟩
 root := .inr ⟨_, List.mem_cons_self, rfl⟩
 mks := fun x => by
  rw [List.mem_append, hK, List.append_nil, List.mem_singleton];simp only [List.map_cons, List.map_nil, List.mem_singleton];exact ⟨fun h => h.imp id (fun h => by omega), fun h => h.imp id (fun h => by omega)⟩
theorem FromK.pop {v c p : Nat} {A : Option Addr} (h : FromK E n r D L (⟨v, [], A, c, p⟩ :: S) K) : FromK E n r D (L ++ [v]) S K where
 dfs := by rw [← List.append_assoc]; exact h.dfs.pop
 ln := fun x hx => by
  rcases List.mem_append.1 hx with h1 | h1
  ·exact h.ln x h1
  ·rw [List.mem_singleton.1 h1];have := h.sn _ List.mem_cons_self;exact ⟨this.1, this.2.1⟩
 sn := fun f hf => h.sn f (List.mem_cons_of_mem _ hf)
 root := by
  rcases h.root with h1 | ⟨f, hf, h1⟩
  ·exact .inl (List.mem_append_left _ h1)
  ·rcases List.mem_cons.1 hf with rfl | hf
   ·exact .inl (by rw [← h1]; simp)
   ·exact .inr ⟨f, hf, h1⟩
 mks := fun x => by
  rw [h.mks];simp only [List.map_cons, List.mem_cons, List.mem_append, List.not_mem_nil, or_false]
  constructor
  ·rintro ((h1 | h1) | h1 | h1)
   ·exact .inl (.inl h1)
   ·exact .inl (.inr (.inl h1))
   ·exact .inl (.inr (.inr h1))
   ·exact .inr h1
  ·rintro ((h1 | h1 | h1) | h1)
   ·exact .inl (.inl h1)
   ·exact .inl (.inr h1)
   ·exact .inr (.inl h1)
   ·exact .inr (.inr h1)
theorem FromK.skip {v y c p c' : Nat} {l : List Nat} {A A' : Option Addr} (h : FromK E n r D L (⟨v, y :: l, A, c, p⟩ :: S) K) (hy : (y : Int) ∈ K) : FromK E n r D L (⟨v, l, A', c', p⟩ :: S) K where
 dfs := h.dfs.skip (by
  have h1 := (h.mks y).1 hy;rw [← nodes_frm] at h1;exact h1)
 ln := h.ln
 sn := fun f hf => by
  rcases List.mem_cons.1 hf with rfl | hf
  ·obtain ⟨h1, h2, h3, h4⟩ := h.sn _ List.mem_cons_self;simp only [List.length_cons] at h3;exact ⟨h1, h2, by dsimp only; omega, fun z hz => h4 z (List.mem_cons_of_mem _ hz)⟩
  ·exact h.sn f (List.mem_cons_of_mem _ hf)
 root := by
  rcases h.root with h1 | ⟨f, hf, h1⟩
  ·exact .inl h1
  ·rcases List.mem_cons.1 hf with rfl | hf
   ·exact .inr ⟨_, List.mem_cons_self, h1⟩
   ·exact .inr ⟨f, List.mem_cons_of_mem _ hf, h1⟩
 mks := h.mks
theorem FromK.push {v y c p c' c2 : Nat} {l m : List Nat} {A A' A2 : Option Addr} (h : FromK E n r D L (⟨v, y :: l, A, c, p⟩ :: S) K) (hy : (y : Int) ∉ K) (hm : ∀ x, E y x ↔ x ∈ m) (hn : m.length ≤ n) (hmn : ∀ x ∈ m, x < n) :
  FromK E n r D L (⟨y, m, A2, c2, (D ++ L).length⟩ :: ⟨v, l, A', c', p⟩ :: S) (K ++ [(y : Int)]) where
 dfs := by
  have h1 : ¬ (y ∈ D ++ L ∨ y ∈ nodesS (frmS (⟨v, y :: l, A, c, p⟩ :: S))) := fun hx => hy ((h.mks y).2 (by rw [nodes_frm] at hx; exact hx));exact h.dfs.push (fun hx => h1 (.inl hx)) (fun hx => h1 (.inr hx)) hm
 ln := h.ln
 sn := fun f hf => by
  obtain ⟨h1, h2, h3, h4⟩ := h.sn _ List.mem_cons_self;simp only [List.length_cons] at h3;rcases List.mem_cons.1 hf with rfl | hf
  ·have he := (h.dfs.stk.1).rest y List.mem_cons_self;exact ⟨h4 y List.mem_cons_self, h2.trans (To.edge he), hn, hmn⟩
  rcases List.mem_cons.1 hf with rfl | hf
  ·exact ⟨h1, h2, by dsimp only; omega, fun z hz => h4 z (List.mem_cons_of_mem _ hz)⟩
  ·exact h.sn f (List.mem_cons_of_mem _ hf)
 root := by
  rcases h.root with h1 | ⟨f, hf, h1⟩
  ·exact .inl h1
  ·rcases List.mem_cons.1 hf with rfl | hf
   ·exact .inr ⟨_, List.mem_cons_of_mem _ List.mem_cons_self, h1⟩
   ·exact .inr ⟨f, List.mem_cons_of_mem _ (List.mem_cons_of_mem _ hf), h1⟩
 mks := fun x => by
  rw [List.mem_append, h.mks, List.mem_singleton];simp only [List.map_cons, List.mem_cons]
  constructor
  ·rintro ((h1 | h1) | h1)
   ·exact .inl h1
   ·exact .inr (.inr h1)
   ·exact .inr (.inl (by omega))
  ·rintro (h1 | h1 | h1)
   ·exact .inl (.inl h1)
   ·exact .inr (by omega)
   ·exact .inl (.inr h1)
theorem FromK.end_ (h : FromK E n r D L [] K) (hD : Dfs E D []) : Gone E D r L := .of h.dfs hD (h.root.resolve_right (by simp)) (fun x hx => (h.ln x hx).2)
theorem FromK.len (h : FromK E n r D L S K) (hD : ∀ d ∈ D, d < n) : L.length + S.length ≤ n := by
 have h1 := h.dfs.nd;have h2 := nodup_lt_len h1 (n := n) (fun a ha => by
  rw [nodes_frm] at ha;rcases List.mem_append.1 ha with ha | ha
  ·rcases List.mem_append.1 ha with ha | ha
   ·exact hD a ha
   ·exact (h.ln a ha).1
  ·obtain ⟨f, hf, rfl⟩ := List.mem_map.1 ha;exact (h.sn f hf).1)
 rw [nodes_frm, List.length_append, List.length_append, List.length_map] at h2;omega
theorem FromK.marks (h : FromK E n r D L [] K) (x : Nat) : (x : Int) ∈ K ↔ x ∈ D ++ L := by rw [h.mks]; simp
end
theorem own_lit2 (w : World) (base e : Nat) (hb : base ≤ w.heap.size) (x y : Value) : (w.alloc (.cells #[x, y] e)).ownsRow base e 2 (.slice (some ⟨w.heap.size, 0, none⟩) 1 1) 1 [x, y] :=
 ⟨rfl, .inr ⟨w.heap.size, 1, #[x, y], rfl, hb, Array.getElem?_push_size, Nat.le_refl _, by decide, rfl, rfl⟩⟩
theorem own_cap {w : World} {base e size n c : Nat} {a : Addr} {xs : List Value} (h : w.ownsRow base e size (.slice (some a) n c) n xs) : n ≤ c := by
 obtain ⟨-, ⟨h1, -⟩ | ⟨g, cap, cur, h1, -, -, h4, -, -, -⟩⟩ := h
 ·cases h1
 ·cases h1
  exact h4
theorem own_some {w : World} {base e size n : Nat} {v : Value} {xs : List Value} (h : w.ownsRow base e size v n xs) (hn : 0 < n) : ∃ g c, v = .slice (some ⟨g, 0, none⟩) n c := by
 obtain ⟨-, ⟨-, h1⟩ | ⟨g, cap, cur, h1, -⟩⟩ := h
 ·omega
 ·exact ⟨g, cap, h1⟩
end Go.Proofs.YtlemjgjpglmphaaDoor
