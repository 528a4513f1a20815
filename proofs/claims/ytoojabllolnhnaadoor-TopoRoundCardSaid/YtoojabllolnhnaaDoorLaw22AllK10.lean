/- Parts. -/
import Derived.Test.YtoojabllolnhnaaDoorLaw22AllK1
import Derived.OrdersHeld
set_option maxRecDepth 10000
set_option maxHeartbeats 16000000
set_option linter.unusedVariables false
set_option linter.unusedSimpArgs false
namespace Go.Proofs.YtoojabllolnhnaaDoor
section
variable {P : Program} {ops : Array Oper} {Q : Exit → Act → World → Prop} {md : Region.Mode} {S : Array Bool → World → Prop}
end
section
variable {P : Program} {md : Region.Mode} {ops : Array Oper} {Q : Exit → Act → World → Prop}
theorem th1 {x : Span} {L : Array Bool} {w : World} (h : x.fact w) : Timed [x] L w := timed_holds h timed_nil
theorem tst {S : Array Bool → World → Prop} {i : Nat} {oi : Oper} {fuel : Nat} {listed : Array Bool} {a : Act} {w : World}
    (h : ∀ K' : Act → World → Prop, Shut (∀ a w, S (listed.setIfInBounds i true) w → (S (listed.setIfInBounds i true) w → wpAnyT P md ops Q S fuel (listed.setIfInBounds i true) a w) → K' a w) →
      if Region.wanted oi (yielded ops a.tmps) = true then Oper.wp P oi a w K' Q else K' (a.put oi.dst undef) w) (ho : ops[i]? = some oi := by rfl) (hr : Region.ready md ops listed = [i] := by kernel_rfl) : S listed w → wpAnyT P md ops Q S (fuel + 1) listed a w := timed_step hr ho h
theorem tp {F : List Span} {i : Nat} {oi : Oper} {v : Value} {fuel : Nat} {listed : Array Bool} {a : Act} {w : World} 
    (h : Timed F (listed.setIfInBounds i true) w → wpAnyT P md ops Q (Timed F) fuel (listed.setIfInBounds i true) (a.put oi.dst v) w) (hi : ops[i]? = some oi := by rfl) (hy : ∀ w, (execOp a.eval oi).run P w = .ok (.value v) w := by (intro w; go_simp; try with_reducible rfl))
    (hs : Region.noSelect ops = true := by kernel_rfl) (hf : Region.free md ops listed i = true := by kernel_rfl) (hr : (Region.ready md ops listed).contains i = true := by kernel_rfl)
    (hQ : ∀ c a w, Q (.panic c) (a.put oi.dst v) w → Q (.panic c) a w := by exact fun _ _ _ h => h) (hq : quietAt F i = true := by kernel_rfl) (hw : Region.wanted oi (yielded ops a.tmps) = true := by kernel_rfl) :
    Timed F listed w → wpAnyT P md ops Q (Timed F) (fuel + 1) listed a w := timed_pure hi hs hf hr hQ hq hw hy h
theorem tpu {F : List Span} {i : Nat} {oi : Oper} {v : Value} {fuel : Nat} {listed : Array Bool} {a : Act} {w : World} (hy : ∀ w, (execOp a.eval oi).run P w = .ok (.value v) w)
    (h : Timed F (listed.setIfInBounds i true) w → wpAnyT P md ops Q (Timed F) fuel (listed.setIfInBounds i true) (a.put oi.dst v) w) (hi : ops[i]? = some oi := by rfl)
    (hs : Region.noSelect ops = true := by kernel_rfl) (hf : Region.free md ops listed i = true := by kernel_rfl) (hr : (Region.ready md ops listed).contains i = true := by kernel_rfl)
    (hQ : ∀ c a w, Q (.panic c) (a.put oi.dst v) w → Q (.panic c) a w := by exact fun _ _ _ h => h) (hq : quietAt F i = true := by kernel_rfl) (hw : Region.wanted oi (yielded ops a.tmps) = true := by kernel_rfl) :
    Timed F listed w → wpAnyT P md ops Q (Timed F) (fuel + 1) listed a w := timed_pure hi hs hf hr hQ hq hw hy h
theorem tid {F : List Span} {i : Nat} {oi : Oper} {fuel : Nat} {listed : Array Bool} {a : Act} {w : World}
    (h : Timed F (listed.setIfInBounds i true) w → wpAnyT P md ops Q (Timed F) fuel (listed.setIfInBounds i true) (a.put oi.dst undef) w) (hi : ops[i]? = some oi := by rfl)
    (hs : Region.noSelect ops = true := by kernel_rfl) (hf : Region.free md ops listed i = true := by kernel_rfl) (hr : (Region.ready md ops listed).contains i = true := by kernel_rfl)
    (hQ : ∀ c a w, Q (.panic c) (a.put oi.dst undef) w → Q (.panic c) a w := by exact fun _ _ _ h => h) (hq : quietAt F i = true := by kernel_rfl) (hw : Region.wanted oi (yielded ops a.tmps) = false := by kernel_rfl) :
    Timed F listed w → wpAnyT P md ops Q (Timed F) (fuel + 1) listed a w := timed_idle hi hs hf hr hQ hq hw h
theorem trd {F : List Span} {i : Nat} (k : Nat) {x : Span} {oi : Oper} {v : Value} {fuel : Nat} {listed : Array Bool} {a : Act} {w : World} (hy : ∀ w, x.fact w → (execOp a.eval oi).run P w = .ok (.value v) w)
    (h : Timed F (listed.setIfInBounds i true) w → wpAnyT P md ops Q (Timed F) fuel (listed.setIfInBounds i true) (a.put oi.dst v) w) (hi : ops[i]? = some oi := by rfl)
    (hs : Region.noSelect ops = true := by kernel_rfl) (hf : Region.free md ops listed i = true := by kernel_rfl) (hr : (Region.ready md ops listed).contains i = true := by kernel_rfl)
    (hQ : ∀ c a w, Q (.panic c) (a.put oi.dst v) w → Q (.panic c) a w := by exact fun _ _ _ h => h) (hq : quietAt F i = true := by kernel_rfl) (hw : Region.wanted oi (yielded ops a.tmps) = true := by kernel_rfl) (hk : F[k]? = some x := by rfl)
    (hl : liveFor md ops F listed i k = true := by kernel_rfl) :
    Timed F listed w → wpAnyT P md ops Q (Timed F) (fuel + 1) listed a w := timed_read k hi hs hf hr hQ hq hw hk hl hy h
theorem tQ (i : Nat) {F : List Span} {oi : Oper} {v : Value} {fuel : Nat} {listed : Array Bool} {a a' : Act} {w : World}
    (hi : ops[i]? = some oi := by rfl) (hy : ∀ w, (execOp a.eval oi).run P w = .ok (.value v) w := by (intro w; go_simp; try with_reducible rfl))
    (ha : a.put oi.dst v = a' := by ((try simp only [tdz]); with_reducible rfl))
    (hs : Region.noSelect ops = true := by kernel_rfl) (hf : Region.free md ops listed i = true := by kernel_rfl) (hr : (Region.ready md ops listed).contains i = true := by kernel_rfl)
    (hQ : ∀ c a w, Q (.panic c) (a.put oi.dst v) w → Q (.panic c) a w := by exact fun _ _ _ h => h) (hq : quietAt F i = true := by kernel_rfl) (hw : Region.wanted oi (yielded ops a.tmps) = true := by kernel_rfl)
    (h : Timed F (listed.setIfInBounds i true) w → wpAnyT P md ops Q (Timed F) fuel (listed.setIfInBounds i true) a' w) :
    Timed F listed w → wpAnyT P md ops Q (Timed F) (fuel + 1) listed a w := timed_pure hi hs hf hr hQ hq hw hy (ha ▸ h)
theorem trq (i k : Nat) {x : Span} {C D : World → Prop} (hC : Go.RowKit.Hid (∀ w, D w → C w)) {F : List Span} {oi : Oper} {v : Value} {fuel : Nat} {listed : Array Bool} {a a' : Act} {w : World}
    (hi : ops[i]? = some oi := by rfl) (hk : F[k]? = some x := by rfl) (hD : ∀ w, x.fact w → D w := by exact fun _ h => h) (hy : ∀ w, C w → (execOp a.eval oi).run P w = .ok (.value v) w := by (intro wq q; go_simp; try with_reducible rfl))
    (ha : a.put oi.dst v = a' := by ((try simp only [tdz]); with_reducible rfl))
    (hs : Region.noSelect ops = true := by kernel_rfl) (hf : Region.free md ops listed i = true := by kernel_rfl) (hr : (Region.ready md ops listed).contains i = true := by kernel_rfl)
    (hQ : ∀ c a w, Q (.panic c) (a.put oi.dst v) w → Q (.panic c) a w := by exact fun _ _ _ h => h) (hq : quietAt F i = true := by kernel_rfl) (hw : Region.wanted oi (yielded ops a.tmps) = true := by kernel_rfl)
    (hl : liveFor md ops F listed i k = true := by kernel_rfl)
    (h : Timed F (listed.setIfInBounds i true) w → wpAnyT P md ops Q (Timed F) fuel (listed.setIfInBounds i true) a' w) :
    Timed F listed w → wpAnyT P md ops Q (Timed F) (fuel + 1) listed a w := timed_read k hi hs hf hr hQ hq hw hk hl (fun w hx => hy w (hC.out w (hD w hx))) (ha ▸ h)
theorem tiq (i : Nat) {F : List Span} {oi : Oper} {fuel : Nat} {listed : Array Bool} {a a' : Act} {w : World}
    (hi : ops[i]? = some oi := by rfl) (ha : a.put oi.dst undef = a' := by ((try simp only [tdz]); with_reducible rfl))
    (hs : Region.noSelect ops = true := by kernel_rfl) (hf : Region.free md ops listed i = true := by kernel_rfl) (hr : (Region.ready md ops listed).contains i = true := by kernel_rfl)
    (hQ : ∀ c a w, Q (.panic c) (a.put oi.dst undef) w → Q (.panic c) a w := by exact fun _ _ _ h => h) (hq : quietAt F i = true := by kernel_rfl) (hw : Region.wanted oi (yielded ops a.tmps) = false := by kernel_rfl)
    (h : Timed F (listed.setIfInBounds i true) w → wpAnyT P md ops Q (Timed F) fuel (listed.setIfInBounds i true) a' w) :
    Timed F listed w → wpAnyT P md ops Q (Timed F) (fuel + 1) listed a w := timed_idle hi hs hf hr hQ hq hw (ha ▸ h)
theorem tdn {S : Array Bool → World → Prop} {fuel : Nat} {listed : Array Bool} {a : Act} {w : World} (h : Q .normal a w) (hr : Region.ready md ops listed = [] := by kernel_rfl) : S listed w → wpAnyT P md ops (NoPanic Q) S fuel listed a w := timed_done hr (NoPanic.normal h) fuel
theorem rgo {F : List Span} {id : Nat} {a : Act} {w : World} (hS : Timed F (Array.replicate ops.size false) w.drew)
    (h : Timed F (Array.replicate ops.size false) w.drew → wpAnyT P .any ops (NoPanic Q) (Timed F) ops.size (Array.replicate ops.size false) a w.drew) (hm : P.follows .mixedOrders = true := by kernel_rfl) : (Code.region id ops true).wp P Q a w := wp_region_noPanic (wp_region_timed hm hS h)
theorem rg1 (T S : List Nat) {id : Nat} {a : Act} (w : World)
    (h : Timed [⟨[], T, fun w' => Only S w w'⟩] (Array.replicate ops.size false) w.drew → wpAnyT P .any ops (NoPanic Q) (Timed [⟨[], T, fun w' => Only S w w'⟩]) ops.size (Array.replicate ops.size false) a w.drew) (hm : P.follows .mixedOrders = true := by kernel_rfl) : (Code.region id ops true).wp P Q a w := rgo (th1 ((Only.refl S w).drew)) h hm
theorem kOut {x : Span} {L : Array Bool} {fuel : Nat} {K : Act → World → Prop} {a a' : Act} {w : World} (hK : Shut (∀ a w, Timed [x] L w → (Timed [x] L w → wpAnyT P md ops Q (Timed [x]) fuel L a w) → K a w)) (X : x.fact w)
    (ha : a = a' := by ((try simp only [tdz]); with_reducible rfl)) (h : Timed [x] L w → wpAnyT P md ops Q (Timed [x]) fuel L a' w) : K a w := hK.out _ _ (th1 X) (ha ▸ h)
end
end Go.Proofs.YtoojabllolnhnaaDoor
