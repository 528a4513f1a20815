package erase_test

import (
	"reflect"
	"testing"

	"deemster/api"
	"deemster/erase"
	"deemster/hist"
	"deemster/sample"
)

const text = "begin t, read t a ?, read t b 1, read t c ?, write t c 2, read t c ?, info t, begin s, read s d ?, ok s, begin s, fail s, begin t, read t a ?, write t d 4, fail t"

func TestOf(t *testing.T) {
	want := sample.Of("begin t, read t b 1, write t c 2, info t, begin s, ok s, begin s, fail s, begin t, write t d 4, fail t")
	if h, e := erase.Of(sample.Of(text)); !hist.Same(h, want) || e != api.OK {
		t.Errorf("%v %v, want %v", h, e, want)
	}
	h, e := erase.Of(sample.Of("begin s, read s x ?, read s y 1, ok s"))
	if !hist.Same(h, sample.Of("begin s, read s y 1, ok s")) || e != api.OK || h.L[0].L[0].Key != 0 {
		t.Errorf("y is the first key: %v %v", h, e)
	}
	if h, e := erase.Of(sample.Of("begin s, read s x ?, info s")); !hist.Same(h, sample.Of("begin s, info s")) || e != api.OK {
		t.Errorf("no key is left: %v %v", h, e)
	}
	if h, e := erase.Of(api.History{}); !hist.Same(h, api.History{}) || e != api.OK {
		t.Errorf("of the empty one: %v %v", h, e)
	}
}

func TestBy(t *testing.T) {
	h := sample.Of(text)
	erased, _ := erase.Of(h)
	if g, e := erase.By(h, api.Keep); !hist.Same(g, h) || e != api.OK {
		t.Errorf("kept: %v %v", g, e)
	}
	if g, e := erase.By(h, api.Erase); !hist.Same(g, erased) || e != api.OK {
		t.Errorf("erased: %v %v", g, e)
	}
	for _, policy := range []int{0, 3, -1, 1 << 62} {
		if g, e := erase.By(h, policy); !reflect.DeepEqual(g, api.History{}) || e != api.ErrArg {
			t.Errorf("policy %d: %v %v", policy, g, e)
		}
	}
}

func TestForm(t *testing.T) {
	h := sample.Of(text)
	h.L[0].Session = 9
	for _, policy := range []int{api.Keep, api.Erase, 0, 7} {
		if g, e := erase.By(h, policy); !reflect.DeepEqual(g, api.History{}) || e != api.ErrForm {
			t.Errorf("policy %d: %v %v", policy, g, e)
		}
	}
	if g, e := erase.Of(h); !reflect.DeepEqual(g, api.History{}) || e != api.ErrForm {
		t.Errorf("%v %v", g, e)
	}
	if p, is := erase.Place(h, api.Place{Txn: 0, Op: 1}); p != (api.Place{}) || is {
		t.Errorf("%v %v", p, is)
	}
}

func TestPlace(t *testing.T) {
	h := sample.Of(text)
	want := map[api.Place]api.Place{{Txn: 0, Op: 1}: {Txn: 0, Op: 0}, {Txn: 0, Op: 3}: {Txn: 0, Op: 1}, {Txn: 3, Op: 1}: {Txn: 3, Op: 0}}
	for txn := -2; txn < 6; txn++ {
		for op := -2; op < 7; op++ {
			p := api.Place{Txn: txn, Op: op}
			to, is := want[p]
			if got, gotIs := erase.Place(h, p); got != to || gotIs != is {
				t.Errorf("Place(%v): %v %v", p, got, gotIs)
			}
		}
	}
}

func TestAnswersAreNewMemory(t *testing.T) {
	for _, policy := range []int{api.Keep, api.Erase} {
		h := sample.Of("begin s, read s x 1, ok s")
		g, _ := erase.By(h, policy)
		g.Sessions[0], g.Keys[0], g.L[0].Fate, g.L[0].L[0].V.N = "z", "z", api.FFail, 9
		if !hist.Same(h, sample.Of("begin s, read s x 1, ok s")) {
			t.Errorf("policy %d: the answer shares the argument's memory: %v", policy, h)
		}
	}
}

func TestWhatIsErasedMayBeAndStaysSo(t *testing.T) {
	for n := range 300 {
		h := sample.History(n, sample.Shape{Sessions: 3, Keys: 4, Txns: 5, Ops: 4, Values: 3, Open: true})
		g, e := erase.Of(h)
		again, f := erase.Of(g)
		if e != api.OK || f != api.OK || hist.May(g) != api.OK || len(hist.Lost(g)) > 0 || !hist.Same(g, again) || len(g.L) != len(h.L) {
			t.Fatalf("%v: %v %v, and again %v %v", h, g, e, again, f)
		}
		for i, txn := range h.L {
			k := 0
			for o, op := range txn.L {
				p, is := erase.Place(h, api.Place{Txn: i, Op: o})
				if is != (op.V.Kind != api.VLost) {
					t.Fatalf("%v: Place of %d:%d: %v", h, i, o, is)
				}
				if !is {
					continue
				}
				there := g.L[i].L[p.Op]
				if p.Txn != i || p.Op != k || there.V != op.V || there.Write != op.Write || g.Keys[there.Key] != h.Keys[op.Key] {
					t.Fatalf("%v: %d:%d is at %v: %v", h, i, o, p, there)
				}
				k++
			}
			if k != len(g.L[i].L) {
				t.Fatalf("%v: %d ops are left of %d", h, len(g.L[i].L), i)
			}
		}
	}
}
